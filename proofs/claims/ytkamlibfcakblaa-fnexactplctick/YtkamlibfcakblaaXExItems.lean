/- Texts that follow each other, merged: ExItems, Own. -/
import Derived.Test.YtkamlibfcakblaaXKey
import Derived.Deep.RegionHeld3
import Derived.Laws.AppendOwn
import Derived.Laws.OwnMore
import Derived.Maps.AppendAt

/- The helpers of the exact laws over things and stores: a count, a copy, a comparison. -/
namespace Go.Proofs.Ytkamlibfcakblaa
open Go.RowKit

/-- What is left behind n and then m more; -1 where that is less than none. -/
def lessTwo (left n m : Int) : Int := if left < n then -1 else less (left - n) m
theorem lessTwo_no {left n m : Int} (h : left < n) : lessTwo left n m = -1 := by unfold lessTwo; rw [if_pos h]
theorem lessTwo_yes {left n m : Int} (h : n ≤ left) : lessTwo left n m = less (left - n) m := by unfold lessTwo; rw [if_neg (by omega)]
theorem lessTwo_bound {left n m : Int} (hn : 0 ≤ n) (hm : 0 ≤ m) (h : 0 ≤ lessTwo left n m) : n ≤ left ∧ m ≤ left ∧ lessTwo left n m ≤ left := by
  unfold lessTwo less at *
  split at h
  · omega
  · split at h
    · omega
    · rename_i h1 h2
      rw [if_neg h1, if_neg h2]; omega
theorem lessTwo_low {left n m : Int} (hn : 0 ≤ n) (hm : 0 ≤ m) (hl : 0 ≤ left) : -1 ≤ lessTwo left n m ∧ lessTwo left n m ≤ left := by
  unfold lessTwo less
  split
  · omega
  · split <;> omega

/-- Of the first k things none is long. -/
def Short (its : List Item) (k : Nat) : Prop := ∀ j it, j < k → its[j]? = some it → it.key.size ≤ 1048576 ∧ it.val.length ≤ 1048576
theorem Short.start (its : List Item) : Short its 0 := fun j _ h => absurd h (by omega)
theorem Short.step {its : List Item} {k : Nat} {it : Item} (h : Short its k) (hk : its[k]? = some it) (h1 : it.key.size ≤ 1048576) (h2 : it.val.length ≤ 1048576) : Short its (k + 1) := by
  intro j x hj hx
  rcases Nat.lt_or_ge j k with hlt | hge
  · exact h j x hlt hx
  · have : j = k := by omega
    subst this
    rw [hk] at hx
    injection hx with hx
    rw [← hx]; exact ⟨h1, h2⟩
/-- What a count of things says: a number from -1 to what was left; where it is not below 0 they are few, and short. -/
def Counted (left : Int) (its : List Item) (w : World) (e : Ending) (w' : World) : Prop :=
  ∃ r : Int, e = .returned (.int .i64 r) ∧ -1 ≤ r ∧ r ≤ left ∧ (0 ≤ r → its.length ≤ 1048576 ∧ Short its its.length) ∧ Below w.heap.size w w'

end Go.Proofs.Ytkamlibfcakblaa

/- Slices of integers that the call itself has made, by append. -/
namespace Go.Proofs.Ytkamlibfcakblaa
open Go.RowKit

/-- A slice of integers in a block of the call's own, from block lo on. -/
def OwnInts (w : World) (lo : Nat) (v : Value) (xs : List Int) : Prop := w.ownsRow lo 3 1 v xs.length (xs.map (Value.int .i64))

theorem nth_map {xs : List Int} {j : Nat} (h : j < xs.length) : (xs.map (Value.int .i64))[j]? = some (.int .i64 (nth xs j)) := by
  rw [List.getElem?_map, List.getElem?_eq_getElem h, nth_get h]; rfl
theorem OwnInts.ints {w : World} {lo : Nat} {v : Value} {xs : List Int} (h : OwnInts w lo v xs) : Ints w w.heap.size v xs := by
  rcases h.2 with ⟨rfl, h0⟩ | ⟨g, cap, cur, rfl, hb, hg, hn, hm, hs, ht⟩
  · exact ⟨none, 0, by rw [h0], by omega, Nat.zero_le _, fun hp => absurd hp (by omega)⟩
  · refine ⟨_, cap, rfl, hn, hm, fun _ => ⟨g, 0, rfl, (Array.getElem?_eq_some_iff.1 hg).1, fun j hj => ?_⟩⟩
    have := World.ownsRow.cellAt h j (by omega)
    rw [Nat.zero_add, this, nth_map hj]
theorem OwnInts.below {w w' : World} {lo : Nat} {v : Value} {xs : List Int} (h : OwnInts w lo v xs) (hb : Below w.heap.size w w') : OwnInts w' lo v xs :=
  h.kept (row := none) ⟨hb.os, hb.tape, hb.output, hb.size, fun k hk _ => hb.block k hk⟩ (by cases hv : v.ownBlock <;> simp)

set_option maxRecDepth 100000 in
/-- append of a slice of integers to one of the call's own. -/
theorem append_ints (w : World) (lo : Nat) (v : Value) (xs : List Int) (hv : OwnInts w lo v xs) (B : Nat) (A : Option Addr) (c : Nat) (ys : List Int) (hy : Ints w B (.slice A ys.length c) ys) (ty : TypeId)
    (hl : xs.length + ys.length ≤ 4194304) (hlo : lo ≤ w.heap.size) :
    ∃ v' w', (Builtin.append_ #[39, 39] ty #[v, .slice A ys.length c]).run Try.prog w = .ok v' w' ∧ OwnInts w' lo v' (xs ++ ys) ∧ w.grownBy w' v.ownBlock := by
  obtain ⟨i, hi, hz, hs, hb⟩ := info_parts infoInt
  obtain ⟨A', c', e, hc1, hc2, hrow⟩ := hy
  injection e with eA _ ec
  subst eA ec
  cases A with
  | none =>
    have h0 : ys = [] := by
      cases ys with
      | nil => rfl
      | cons y l =>
        obtain ⟨_, _, h, _⟩ := hrow (by simp)
        cases h
    subst h0
    refine ⟨v, w, ?_, by simpa [OwnInts] using hv, World.grownBy.refl _ _⟩
    rcases hv.2 with ⟨rfl, h0⟩ | ⟨g, cap, cur, rfl, _, _, hnc, _⟩
    · simp [Builtin.append_, run_underlying Try.underlying39, sizeOf, typeInfo, hi, Builtin.lenOf, Builtin.firstCells]
    · simp [Builtin.append_, run_underlying Try.underlying39, sizeOf, typeInfo, hi, Builtin.lenOf, Builtin.firstCells, hnc, storeCells]
  | some ad =>
    have hcells : ∀ j u, (ys.map (Value.int .i64))[j]? = some u → w.cell? (ad.add j) = some u := by
      intro j u hu
      have hj : j < ys.length := by
        have := (List.getElem?_eq_some_iff.1 hu).1
        simpa using this
      obtain ⟨b, off, e, _, hc⟩ := hrow (by omega)
      injection e with e
      subst e
      rw [nth_map hj] at hu
      rw [← hu, ← hc j hj]
      congr 1
      unfold Addr.add
      by_cases h : j = 0 <;> simp [h]
    obtain ⟨v', w', h1, h2, h3, _⟩ := run_append_own (P := Try.prog) w lo 39 ty 3 i (.int .i64 0) 1 8 Try.underlying39 hi hz hs hb rfl (by omega) v xs.length _ hv ad ys.length c (ys.map (Value.int .i64)) (by simp) hcells
      (by intro u hu; obtain ⟨n, _, rfl⟩ := List.mem_map.1 hu; rfl) (by unfold maxLen; omega) (by omega) hlo
    exact ⟨v', w', h1, by simpa [OwnInts] using h2, h3⟩

/-- The same, for the walk. -/
theorem wpl_append_ints {w : World} {ops : Array Oper} {rest : List Oper} {o : Oper} {a : Act} {Q : Exit → Act → World → Prop} (hgd : o.guard = none) (s x : Operand)
    (ho : o.op = .call { callee := .builtin .append, args := #[s, x], argTypes := #[39, 39] }) (lo : Nat) (v : Value) (xs : List Int) (hs : a.eval s = v) (hv : OwnInts w lo v xs)
    (B : Nat) (A : Option Addr) (c : Nat) (ys : List Int) (hx : a.eval x = .slice A ys.length c) (hy : Ints w B (.slice A ys.length c) ys) (hl : xs.length + ys.length ≤ 4194304) (hlo : lo ≤ w.heap.size)
    (h : ∀ v' w', OwnInts w' lo v' (xs ++ ys) → w.grownBy w' v.ownBlock → wpList Try.prog ops Q rest (a.put o.dst v') w') : wpList Try.prog ops Q (o :: rest) a w := by
  refine wpList_plain hgd fun K hK => ?_
  obtain ⟨v', w', hr, h2, h3⟩ := append_ints w lo v xs hv B A c ys hy o.type hl hlo
  unfold Oper.wp execOp
  simp only [ho, resolve, invoke, builtin, Sem.run_bind, Sem.run_pure, Result.andThen_ok, List.map_toArray, List.map_cons, List.map_nil, hs, hx, hr]
  exact hK _ _ (h v' w' h2 h3)

theorem OwnInts.empty (w : World) (lo : Nat) (hlo : lo ≤ w.heap.size) : OwnInts (w.alloc (.cells #[] 3)) lo (.slice (some ⟨w.heap.size, 0, none⟩) 0 0) [] :=
  World.ownsRow_made w #[] 0 hlo (Nat.zero_le _) (by simp)

set_option maxRecDepth 100000 in
theorem clone_any (w : World) (v : Value) (xs : List Int) (hv : Ints w w.heap.size v xs) (hl : xs.length ≤ 1048576) :
    Calls Try.prog 92 #[v] w fun e w' => ∃ u, e = .returned u ∧ OwnInts w' w.heap.size u xs ∧ Below w.heap.size w w' := by
  obtain ⟨A, c, rfl, hc2, hc1⟩ := hv.form
  have HV := Lib.hid hv
  clear hv
  have hq := fun W => Lib.run_eql_slice_nil (P := Try.prog) W 39 3 A xs.length c 0 0 Try.underlying39
  cases A with
  | none =>
    have hx : xs = [] := by
      obtain ⟨A', c', e, _, _, hrow⟩ := HV.out
      injection e with eA _ _
      subst eA
      cases xs with
      | nil => rfl
      | cons y l =>
        obtain ⟨_, _, h, _⟩ := hrow (by simp)
        cases h
    have HX := Lib.hid hx
    clear hx
    go_enter Try.func92, Try.ntmps92
    go_wp2
    go_ret
    exact ⟨_, rfl, by rw [HX.out]; exact World.ownsRow_nil _ _ _ _, Below.refl _ _⟩
  | some ad =>
    go_enter Try.func92, Try.ntmps92
    go_wp2_with (at_builtin; refine wpl_append_ints rfl _ _ rfl w.heap.size _ [] rfl (OwnInts.empty w w.heap.size (Nat.le_refl _)) w.heap.size _ _ xs rfl (HV.out.alloc (Nat.le_refl _) _) (by simp; omega) (by simp) ?_; intro u w1 hown hg; have HO := Lib.hid hown; have HG := Lib.hid hg; clear hown hg)
    go_ret
    exact ⟨_, rfl, HO.out, (belowOne _ _).grown HG.out (by simp) (fun k hk => Nat.le_of_eq (Option.some.inj hk))⟩

end Go.Proofs.Ytkamlibfcakblaa
