/- Texts that follow each other, merged: MStoStore, MStoOne. -/
import Derived.Test.YtkamlibfcakblaaXMStoItem
import Derived.Test.YtkamlibfcakblaaXMExact
import Derived.Test.YtkamlibfcakblaaXIOpen
import Derived.Test.YtkamlibfcakblaaXStoTwoW

/- Marks on StoStore and on slices of it. By shgen.py. -/
namespace Go.Proofs.Ytkamlibfcakblaa
open Go.RowKit

theorem subStoStoreItems {w : World} {S : Nat → Prop} {cs : List Value} {x : Sto} (h : stoSh.own w S cs x) : ∃ u Sf, cs[0]? = some u ∧ itSh.Own 104 w Sf u x.items ∧ (∀ b, Sf b → S b) ∧ ∀ w' ys, itSh.Own 104 w' Sf u ys → Outs Sf w w' → stoSh.own w' S cs { x with items := ys } := by
  obtain ⟨u0, rfl, ho0⟩ := sto_own.1 h
  exact ⟨u0, S, rfl, ho0, fun _ h => h, fun w' ys hy _ => sto_own.2 ⟨u0, rfl, hy⟩⟩
end Go.Proofs.Ytkamlibfcakblaa

/- Marks on one store, as a record. -/
namespace Go.Proofs.Ytkamlibfcakblaa
open Go.RowKit

theorem fineWt {its : List Item} (h : Fine its) : wtL itSh.wt its ≤ 7 * its.length := by
  induction its with
  | nil => simp [wtL]
  | cons x l ih =>
    have h1 := h x (List.mem_cons_self ..)
    have h2 := ih fun y hy => h y (List.mem_cons_of_mem _ hy)
    have hw : itSh.wt x = x.key.size + intsSh.wt x.val := rfl
    have hi := ints_wt x.val
    simp only [wtL, List.length_cons]
    omega
set_option maxRecDepth 100000 in
theorem markStoStore_o (w : World) (S : Nat → Prop) (v : Value) (xs : List Item) (hv : itSh.Own 104 w S v xs) (k : Int) (hl : itsSh.wt xs ≤ 1048576) (h0 : 1 ≤ k) (h1 : k + 16 * (itsSh.wt xs : Int) ≤ 1000000000000000) :
    Calls Try.prog 50 #[.agg #[v], .int .i64 k] w (MarkedSl itSh 104 S v xs k w) := by
  obtain ⟨A, c, rfl, -, -⟩ := hv.row.form
  have HV := Lib.hid (hv.below (belowOne w (.cells #[.slice A xs.length c] 54)))
  clear hv
  go_enter Try.func50, Try.ntmps50
  go_wp2_with fail
  refine (markStoItemS_sh _ S _ xs HV.out k hl h0 h1).mono ?_
  rintro e w1 ⟨ys, rfl, hy1, hy2, hy3, hy4, hy5⟩
  have HF := Lib.hid (And.intro hy1 (And.intro hy2 (And.intro hy3 (And.intro hy4 hy5))))
  clear hy1 hy2 hy3 hy4 hy5
  go_wp2
  go_ret
  obtain ⟨hy1, hy2, hy3, hy4, hy5⟩ := HF.out
  exact ⟨ys, rfl, hy1, hy2, hy3, hy4, (Outs.of_below (belowOne w _)).trans hy5⟩
set_option maxRecDepth 100000 in
theorem heldStoStore_o (w : World) (v : Value) (xs : List Item) (hv : itSh.Row w w.heap.size v xs) (k : Int) (hl : itsSh.wt xs ≤ 1048576) (h0 : 1 ≤ k) (h1 : k + 16 * (itsSh.wt xs : Int) ≤ 1000000000000000) (hm : mkdL itSh.cnt itSh.mkd k xs) :
    Calls Try.prog 51 #[.agg #[v], .int .i64 k] w fun e w' => e = .returned (.int .i64 (k + cntL itSh.cnt xs)) ∧ Below w.heap.size w w' := by
  obtain ⟨A, c, rfl, -, -⟩ := hv.form
  have HV := Lib.hid ((hv.alloc (Nat.le_refl _) (.cells #[.slice A xs.length c] 54)).more (B' := (w.alloc (.cells #[.slice A xs.length c] 54)).heap.size) (by simp))
  have HM := Lib.hid hm
  have hcn : (0 : Int) ≤ k + cntL itSh.cnt xs := by omega
  clear hv hm
  go_enter Try.func51, Try.ntmps51
  go_wp2_with fail
  refine (heldStoItemS_sh _ _ xs HV.out k hl h0 h1 HM.out).mono ?_
  rintro e w1 ⟨rfl, hb⟩
  have HB := Lib.hid (belowNext (belowOne w (.cells #[.slice A xs.length c] 54)) hb)
  clear hb
  go_wp2
  go_ret
  exact ⟨rfl, HB.out⟩


def sCnt (x : Sto) : Nat := cntL itSh.cnt x.items
def sMk (k : Int) (x : Sto) : Prop := mkdL itSh.cnt itSh.mkd k x.items
theorem sto_wt (x : Sto) : stoSh.wt x = wtL itSh.wt x.items := rfl
theorem markStoStore_r (w : World) (S : Nat → Prop) (cs : List Value) (x : Sto) (hv : stoSh.own w S cs x) (k : Int) (hl : stoSh.wt x ≤ 1048576) (h0 : 1 ≤ k) (h1 : k + 16 * (stoSh.wt x : Int) ≤ 1000000000000000) :
    Calls Try.prog 50 #[.agg cs.toArray, .int .i64 k] w (MarkedAg stoSh sCnt sMk S cs x k w) := by
  obtain ⟨u, rfl, hu⟩ := sto_own.1 hv
  refine (markStoStore_o w S u x.items hu k hl h0 h1).mono ?_
  rintro e w1 ⟨ys, rfl, hy1, hy2, hy3, hy4, hy5⟩
  exact ⟨⟨ys⟩, rfl, hy2, hy3, sto_own.2 ⟨_, rfl, hy4⟩, hy5⟩
theorem heldStoStore_r (w : World) (cs : List Value) (x : Sto) (hv : stoSh.rel w w.heap.size cs x) (k : Int) (hl : stoSh.wt x ≤ 1048576) (h0 : 1 ≤ k) (h1 : k + 16 * (stoSh.wt x : Int) ≤ 1000000000000000) (hm : sMk k x) :
    Calls Try.prog 51 #[.agg cs.toArray, .int .i64 k] w fun e w' => e = .returned (.int .i64 (k + sCnt x)) ∧ Below w.heap.size w w' := by
  obtain ⟨u, rfl, hu⟩ := sto_rel.1 hv
  exact heldStoStore_o w u x.items hu k hl h0 h1 hm
theorem sto_marked {y : Sto} {k : Int} {c : Nat} (h : sMk k y) (h0 : 0 ≤ k) (hc : sCnt y = c) (hk : k + c ≤ 999) : stoSh.wt y ≤ 1048576 := by
  unfold sCnt at hc
  have h1 := its_wt (M := 999) h h0 (by omega)
  have h2 : cntL itSh.cnt y.items * (999 + 3) ≤ 999 * (999 + 3) := Nat.mul_le_mul_right _ (by omega)
  rw [sto_wt]; omega
theorem foldD_small {x : Disk} : sCnt ⟨foldD x⟩ ≤ 160 ∧ stoSh.wt ⟨foldD x⟩ ≤ 280 := by
  have h : (foldD x).length ≤ 40 ∧ Fine (foldD x) := by
    unfold foldD; split
    · exact ⟨foldN_len _, foldN_small _⟩
    · exact ⟨by simp, fun _ h => by cases h⟩
  have h1 := its_cnt (its := foldD x) fun it hi => (h.2 it hi).2
  have h2 := fineWt h.2
  exact ⟨by show cntL itSh.cnt (foldD x) ≤ 160; omega, by show wtL itSh.wt (foldD x) ≤ 280; omega⟩

end Go.Proofs.Ytkamlibfcakblaa
