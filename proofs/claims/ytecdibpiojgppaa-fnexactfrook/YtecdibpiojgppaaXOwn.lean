/- Slices of integers that the call itself has made, by append. -/
import Derived.Test.YtecdibpiojgppaaXExItems
import Derived.Laws.AppendOwn
import Derived.Laws.OwnMore
import Derived.Maps.AppendAt
namespace Go.Proofs.Ytecdibpiojgppaa
open Go.RowKit

/-- A slice of integers in a block of the call's own, from block lo on. -/
def OwnInts (w : World) (lo : Nat) (v : Value) (xs : List Int) : Prop := w.ownsRow lo 3 1 v xs.length (xs.map (Value.int .i64))

theorem nth_map {xs : List Int} {j : Nat} (h : j < xs.length) : (xs.map (Value.int .i64))[j]? = some (.int .i64 (nth xs j)) := by
  rw [List.getElem?_map, List.getElem?_eq_getElem h, nth_get h]; rfl
theorem OwnInts.ints {w : World} {lo : Nat} {v : Value} {xs : List Int} (h : OwnInts w lo v xs) : Ints w w.heap.size v xs := by
  rcases h.2 with ⟨rfl, h0⟩ | ⟨g, cap, cur, rfl, hb, hg, hn, hm, hs, ht⟩
  · exact ⟨none, 0, by rw [h0], by omega, Nat.zero_le _, fun hp => absurd hp (by omega)⟩
  · refine ⟨_, cap, rfl, hn, hm, fun _ => ⟨g, 0, rfl, (Array.getElem?_eq_some_iff.1 hg).1, fun j hj => ?_⟩⟩
    have := World.ownsRow.cellAt h j (by omega)
    rw [Nat.zero_add, this, nth_map hj]
theorem OwnInts.below {w w' : World} {lo : Nat} {v : Value} {xs : List Int} (h : OwnInts w lo v xs) (hb : Below w.heap.size w w') : OwnInts w' lo v xs :=
  h.kept (row := none) ⟨hb.os, hb.tape, hb.output, hb.size, fun k hk _ => hb.block k hk⟩ (by cases hv : v.ownBlock <;> simp)

set_option maxRecDepth 100000 in
/-- append of a slice of integers to one of the call's own. -/
theorem append_ints (w : World) (lo : Nat) (v : Value) (xs : List Int) (hv : OwnInts w lo v xs) (B : Nat) (A : Option Addr) (c : Nat) (ys : List Int) (hy : Ints w B (.slice A ys.length c) ys) (ty : TypeId)
    (hl : xs.length + ys.length ≤ 4194304) (hlo : lo ≤ w.heap.size) :
    ∃ v' w', (Builtin.append_ #[41, 41] ty #[v, .slice A ys.length c]).run Try.prog w = .ok v' w' ∧ OwnInts w' lo v' (xs ++ ys) ∧ w.grownBy w' v.ownBlock := by
  obtain ⟨i, hi, hz, hs, hb⟩ := info_parts infoInt
  obtain ⟨A', c', e, hc1, hc2, hrow⟩ := hy
  injection e with eA _ ec
  subst eA ec
  cases A with
  | none =>
    have h0 : ys = [] := by
      cases ys with
      | nil => rfl
      | cons y l =>
        obtain ⟨_, _, h, _⟩ := hrow (by simp)
        cases h
    subst h0
    refine ⟨v, w, ?_, by simpa [OwnInts] using hv, World.grownBy.refl _ _⟩
    rcases hv.2 with ⟨rfl, h0⟩ | ⟨g, cap, cur, rfl, _, _, hnc, _⟩
    · simp [Builtin.append_, run_underlying Try.underlying41, sizeOf, typeInfo, hi, Builtin.lenOf, Builtin.firstCells]
    · simp [Builtin.append_, run_underlying Try.underlying41, sizeOf, typeInfo, hi, Builtin.lenOf, Builtin.firstCells, hnc, storeCells]
  | some ad =>
    have hcells : ∀ j u, (ys.map (Value.int .i64))[j]? = some u → w.cell? (ad.add j) = some u := by
      intro j u hu
      have hj : j < ys.length := by
        have := (List.getElem?_eq_some_iff.1 hu).1
        simpa using this
      obtain ⟨b, off, e, _, hc⟩ := hrow (by omega)
      injection e with e
      subst e
      rw [nth_map hj] at hu
      rw [← hu, ← hc j hj]
      congr 1
      unfold Addr.add
      by_cases h : j = 0 <;> simp [h]
    obtain ⟨v', w', h1, h2, h3, _⟩ := run_append_own (P := Try.prog) w lo 41 ty 3 i (.int .i64 0) 1 8 Try.underlying41 hi hz hs hb rfl (by omega) v xs.length _ hv ad ys.length c (ys.map (Value.int .i64)) (by simp) hcells
      (by intro u hu; obtain ⟨n, _, rfl⟩ := List.mem_map.1 hu; rfl) (by unfold maxLen; omega) (by omega) hlo
    exact ⟨v', w', h1, by simpa [OwnInts] using h2, h3⟩

/-- The same, for the walk. -/
theorem wpl_append_ints {w : World} {ops : Array Oper} {rest : List Oper} {o : Oper} {a : Act} {Q : Exit → Act → World → Prop} (hgd : o.guard = none) (s x : Operand)
    (ho : o.op = .call { callee := .builtin .append, args := #[s, x], argTypes := #[41, 41] }) (lo : Nat) (v : Value) (xs : List Int) (hs : a.eval s = v) (hv : OwnInts w lo v xs)
    (B : Nat) (A : Option Addr) (c : Nat) (ys : List Int) (hx : a.eval x = .slice A ys.length c) (hy : Ints w B (.slice A ys.length c) ys) (hl : xs.length + ys.length ≤ 4194304) (hlo : lo ≤ w.heap.size)
    (h : ∀ v' w', OwnInts w' lo v' (xs ++ ys) → w.grownBy w' v.ownBlock → wpList Try.prog ops Q rest (a.put o.dst v') w') : wpList Try.prog ops Q (o :: rest) a w := by
  refine wpList_plain hgd fun K hK => ?_
  obtain ⟨v', w', hr, h2, h3⟩ := append_ints w lo v xs hv B A c ys hy o.type hl hlo
  unfold Oper.wp execOp
  simp only [ho, resolve, invoke, builtin, Sem.run_bind, Sem.run_pure, Result.andThen_ok, List.map_toArray, List.map_cons, List.map_nil, hs, hx, hr]
  exact hK _ _ (h v' w' h2 h3)

theorem OwnInts.empty (w : World) (lo : Nat) (hlo : lo ≤ w.heap.size) : OwnInts (w.alloc (.cells #[] 3)) lo (.slice (some ⟨w.heap.size, 0, none⟩) 0 0) [] :=
  World.ownsRow_made w #[] 0 hlo (Nat.zero_le _) (by simp)

set_option maxRecDepth 100000 in
theorem clone_any (w : World) (v : Value) (xs : List Int) (hv : Ints w w.heap.size v xs) (hl : xs.length ≤ 1048576) :
    Calls Try.prog 175 #[v] w fun e w' => ∃ u, e = .returned u ∧ OwnInts w' w.heap.size u xs ∧ Below w.heap.size w w' := by
  obtain ⟨A, c, rfl, hc2, hc1⟩ := hv.form
  have HV := Lib.hid hv
  clear hv
  have hq := fun W => Lib.run_eql_slice_nil (P := Try.prog) W 41 3 A xs.length c 0 0 Try.underlying41
  cases A with
  | none =>
    have hx : xs = [] := by
      obtain ⟨A', c', e, _, _, hrow⟩ := HV.out
      injection e with eA _ _
      subst eA
      cases xs with
      | nil => rfl
      | cons y l =>
        obtain ⟨_, _, h, _⟩ := hrow (by simp)
        cases h
    have HX := Lib.hid hx
    clear hx
    go_enter Try.func175, Try.ntmps175
    go_wp2
    go_ret
    exact ⟨_, rfl, by rw [HX.out]; exact World.ownsRow_nil _ _ _ _, Below.refl _ _⟩
  | some ad =>
    go_enter Try.func175, Try.ntmps175
    go_wp2_with (at_builtin; refine wpl_append_ints rfl _ _ rfl w.heap.size _ [] rfl (OwnInts.empty w w.heap.size (Nat.le_refl _)) w.heap.size _ _ xs rfl (HV.out.alloc (Nat.le_refl _) _) (by simp; omega) (by simp) ?_; intro u w1 hown hg; have HO := Lib.hid hown; have HG := Lib.hid hg; clear hown hg)
    go_ret
    exact ⟨_, rfl, HO.out, (belowOne _ _).grown HG.out (by simp) (fun k hk => Nat.le_of_eq (Option.some.inj hk))⟩

end Go.Proofs.Ytecdibpiojgppaa
