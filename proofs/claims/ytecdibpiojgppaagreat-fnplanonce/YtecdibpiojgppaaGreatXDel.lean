/- Texts that follow each other, merged: Del, ExTo. -/
import Derived.Test.YtecdibpiojgppaaGreatXIns
import Derived.Test.YtecdibpiojgppaaGreatXExItems

/- slices.Delete of one thing of the call's own. -/
namespace Go.Proofs.YtecdibpiojgppaaGreat
open Go.RowKit Go.Shelf

/-- The cells of a row out of which one was taken. -/
theorem drop_row {cur F z : List Value} {m i d cap : Nat} (hc : cur.length = cap * d) (hF : cur.take ((m + 1) * d) = F) (hz : z.length = d) (hi : i ≤ m) (hn : m + 1 ≤ cap) :
    ((cur.take (i * d) ++ F.drop ((i + 1) * d) ++ cur.drop (i * d + (F.drop ((i + 1) * d)).length)).take (m * d) ++ z ++ (cur.take (i * d) ++ F.drop ((i + 1) * d) ++ cur.drop (i * d + (F.drop ((i + 1) * d)).length)).drop (m * d + z.length)).take (m * d) = F.take (i * d) ++ F.drop ((i + 1) * d) ∧
    ((cur.take (i * d) ++ F.drop ((i + 1) * d) ++ cur.drop (i * d + (F.drop ((i + 1) * d)).length)).take (m * d) ++ z ++ (cur.take (i * d) ++ F.drop ((i + 1) * d) ++ cur.drop (i * d + (F.drop ((i + 1) * d)).length)).drop (m * d + z.length)).length = cap * d ∧
    (cur.take (i * d) ++ F.drop ((i + 1) * d) ++ cur.drop (i * d + (F.drop ((i + 1) * d)).length)).length = cap * d := by
  have h1 : (i + 1) * d = i * d + d := by rw [Nat.add_mul, Nat.one_mul]
  have h2 : (m + 1) * d = m * d + d := by rw [Nat.add_mul, Nat.one_mul]
  have h3 := Nat.mul_le_mul_right d hi
  have h4 := Nat.mul_le_mul_right d hn
  have hFl : F.length = (m + 1) * d := by rw [← hF, List.length_take]; omega
  have hT : cur.take (i * d) = F.take (i * d) := by rw [← hF, List.take_take]; congr 1; omega
  have e1 : (cur.take (i * d) ++ F.drop ((i + 1) * d) ++ cur.drop (i * d + (F.drop ((i + 1) * d)).length)).take (m * d) = F.take (i * d) ++ F.drop ((i + 1) * d) := by
    rw [hT]
    refine List.take_left' ?_
    simp only [List.length_append, List.length_take, List.length_drop, hFl]; omega
  refine ⟨?_, ?_, ?_⟩
  · rw [e1, List.append_assoc]
    refine List.take_left' ?_
    simp only [List.length_append, List.length_take, List.length_drop, hFl]; omega
  · simp only [List.length_append, List.length_take, List.length_drop, hFl, hz, hc]; omega
  · simp only [List.length_append, List.length_take, List.length_drop, hFl, hc]; omega

theorem zeroItem : (Builtin.zeroCells (Value.agg #[.string ByteArray.empty, .slice none 0 0]).cells 1).toList = [.string ByteArray.empty, .slice none 0 0] := by kernel_rfl
theorem zeroSize : (Builtin.zeroCells (Value.agg #[.string ByteArray.empty, .slice none 0 0]).cells 1).size = 2 := by kernel_rfl
theorem zeroRun (w : World) : (zeroValue 95).run Tryz.prog w = .ok (.agg #[.string ByteArray.empty, .slice none 0 0]) w := by
  obtain ⟨i0, hi0, hz0, -, -⟩ := infoItemParts
  simp [zeroValue, typeInfo, hi0, hz0]

set_option maxRecDepth 100000 in
set_option maxHeartbeats 4000000 in
theorem delete_any (w : World) (S : Nat → Prop) (v : Value) (its : List Item) (hv : itSh.Own 95 w S v its) (hl : its.length ≤ 1048576) (i : Nat) (hi : i < its.length) :
    Calls Tryz.prog 93 #[v, .int .i64 i, .int .i64 ((i : Int) + 1)] w (Changed S v (delAt its i) w) := by
  rcases hv.form with ⟨-, rfl⟩ | ⟨g, cap, rfl, -, -, -, -⟩
  · simp at hi
  obtain ⟨C, F, hrow, h2, h3, h4⟩ := hv
  rcases hrow.2 with ⟨h', _⟩ | ⟨g', cap', cur, h', hb, hg, hnc, hcm, hcs, htake⟩
  · simp at h'
  simp only [Value.slice.injEq, Option.some.injEq, Addr.mk.injEq, and_true, true_and] at h'
  obtain ⟨rfl, rfl⟩ := h'
  have hwd : itSh.wd = 2 := rfl
  rw [hwd] at hrow hcs htake
  have hC : ∀ j, j < its.length → (C j).length = 2 := fun j hj => itSh.olen (h3 j _ (List.getElem?_eq_getElem hj)).1
  have hFl := flat_len hC
  have hone : ∀ v ∈ flat C its.length, v.oneCell' = true := by
    intro x hx
    obtain ⟨j, hj, hx⟩ := List.mem_flatMap.1 hx
    exact itSh.oone (h3 j _ (List.getElem?_eq_getElem (List.mem_range.1 hj))).1 x hx
  have hcell : ∀ j x, (flat C its.length)[j]? = some x → w.cell? ⟨g, j, none⟩ = some x := by
    intro j x hx
    have hj := (List.getElem?_eq_some_iff.1 hx).1
    rw [cell_of_row w g j cur _ _ hg, ← hx, ← htake, List.getElem?_take, if_pos (by omega)]
    simp
  obtain ⟨i0, hi0, hz0, hs0, hb0⟩ := infoItemParts
  obtain ⟨m, hm⟩ : ∃ m, its.length = m + 1 := ⟨its.length - 1, by omega⟩
  rw [hm] at hi hFl hl hrow htake hnc hcell hone
  have HM := Lib.hid hm
  rw [hm]
  unfold maxLen at hcm
  have hcur : cur.size = cap * 2 := hcs
  have hcl : cur.toList.length = cap * 2 := by simpa using hcur
  obtain ⟨L1, hL1⟩ : ∃ L1, L1 = (cur.toList.take (i * 2) ++ (flat C (m + 1)).drop ((i + 1) * 2) ++ cur.toList.drop (i * 2 + ((flat C (m + 1)).drop ((i + 1) * 2)).length)) := ⟨_, rfl⟩
  obtain ⟨L2, hL2⟩ : ∃ L2, L2 = (L1.take (m * 2) ++ [.string ByteArray.empty, .slice none 0 0] ++ L1.drop (m * 2 + [Value.string ByteArray.empty, .slice none 0 0].length)) := ⟨_, rfl⟩
  have hpure := drop_row (cur := cur.toList) (i := i) (m := m) (z := [.string ByteArray.empty, .slice none 0 0]) hcl htake rfl (by omega) hnc
  rw [← hL1, ← hL2] at hpure
  obtain ⟨e1, e2, e3⟩ := hpure
  have hdl : ((flat C (m + 1)).drop ((i + 1) * 2)).length = (m - i) * 2 := by rw [List.length_drop, hFl]; omega
  obtain ⟨cs, hcs'⟩ : ∃ cs, cs = (flat C (m + 1)).drop ((i + 1) * 2) := ⟨_, rfl⟩
  have hld : (loadCellsFrom ⟨g, (i + 1) * 2, none⟩ 0 ((m - i) * 2) #[]).run Tryz.prog w.drew = .ok cs.toArray w.drew := by
    have h := run_loadCells_list (P := Tryz.prog) w.drew ⟨g, (i + 1) * 2, none⟩ cs (fun j v hj => by
      rw [add_none]
      rw [hcs'] at hj
      exact hcell _ v (by rwa [List.getElem?_drop] at hj))
    rw [hcs', hdl, ← hcs'] at h
    exact h
  have hst : (storeCells ⟨g, i * 2, none⟩ cs).run Tryz.prog w.drew = .ok () (w.drew.setRow g L1.toArray) := by
    have h := run_storeCells_at Tryz.prog g (i * 2) 95 cs 0 cur w.drew hg (by rw [hcs', hdl, hcur]; omega) (fun v hv => hone v (List.mem_of_mem_drop (hcs' ▸ hv)))
    rw [hL1, ← hcs']
    exact h
  have him : i + (m - i) ≤ cap := by omega
  have him2 : i + (m - i) = m := by omega
  have hself : m = i → w.drew.setRow g L1.toArray = w.drew := by
    intro e
    have hcs0 : (flat C (m + 1)).drop ((i + 1) * 2) = [] := List.length_eq_zero_iff.1 (by rw [hdl, e]; omega)
    have : L1.toArray = cur := by rw [hL1, hcs0]; simp
    rw [this]
    exact setRow_self w.drew g cur _ _ hg
  have hgW : (w.drew.setRow g L1.toArray).heap[g]? = some (.cells L1.toArray 95 (0, 0)) := setRow_heap w.drew g cur _ _ _ hg
  have hclr : ∀ ty c, (Builtin.clear_ #[91] ty #[.slice (some ⟨g, m * 2, none⟩) 1 c]).run Tryz.prog (w.drew.setRow g L1.toArray) = .ok (.tuple #[]) ((w.drew.setRow g L1.toArray).setRow g L2.toArray) := fun ty c => by
    have h := run_clear_wide (P := Tryz.prog) (w.drew.setRow g L1.toArray) 91 95 ty (.agg #[.string ByteArray.empty, .slice none 0 0]) g (m * 2) 0 c L1.toArray 95 Tryz.underlying91 zeroRun
      (by rw [show 0 + 1 = 1 from rfl, zeroItem]; intro v hv; simp at hv; rcases hv with rfl | rfl <;> rfl) hgW (by rw [show 0 + 1 = 1 from rfl, zeroSize]; simp [e3]; omega)
    rw [show 0 + 1 = 1 from rfl, zeroItem, zeroSize] at h
    rw [hL2]
    exact h
  have HFin : Hid (Changed S (.slice (some ⟨g, 0, none⟩) its.length cap) (delAt its i) w (.returned (.slice (some ⟨g, 0, none⟩) m cap)) ((w.drew.setRow g L1.toArray).setRow g L2.toArray)) := by
    refine Lib.hid ⟨_, rfl, ?_, ?_⟩
    · refine (Sh.Own.deleted (A := itSh) (w := w) (S := S) (v := .slice (some ⟨g, 0, none⟩) its.length cap) (v' := .slice (some ⟨g, 0, none⟩) m cap) (C := C) (F := F) (i := i) (by omega) h2 h3 h4 ?_ rfl ?_).mono fun b hb => Or.inl hb
      · rw [setRow_setRow, HM.out, show m + 1 - 1 = m from rfl]
        have hCi : ∀ j, j < m → (delF C i j).length = 2 := fun j hj => by
          unfold delF; split
          · exact hC j (by omega)
          · exact hC _ (by omega)
        refine ⟨by rw [hwd, flat_len hCi], .inr ⟨g, cap, L2.toArray, rfl, Nat.zero_le _, setRow_heap w.drew g cur _ _ _ hg, by omega, by unfold maxLen; omega, by rw [hwd]; simpa using e2, ?_⟩⟩
        rw [hwd]
        show L2.take (m * 2) = _
        rw [e1]
        exact flat_del (n := m + 1) (fun j hj => hC j (by omega)) hi
      · intro b _ hb
        rw [setRow_setRow]
        exact setRow_other w.drew g b _ (fun e => hb (by rw [e]; rfl))
    · rw [setRow_setRow]
      exact ⟨rfl, rfl, rfl, by simp [World.setRow], fun k _ hk => setRow_other w.drew g k _ (fun e => hk (by rw [e]; rfl))⟩
  rw [HM.out] at HFin
  clear hrow h2 h3 h4 hC hFl hone hcell hL1 hL2 hdl htake hcs hm hi0 hz0 hs0 hb0 hgW e1 e2 e3 hcs'
  have mixed : Tryz.prog.follows .mixedOrders = true := by kernel_rfl
  have hz2 : ¬ ((i : Int) = (i : Int) + 1) := by omega
  have hb1 : (0 : Int) ≤ (i : Int) + 1 := by omega
  have htn : ((i : Int) + 1).toNat = i + 1 := by omega
  have hk1 : (i : Int) + 1 ≤ (m : Int) + 1 := by omega
  have hk2 : (i : Int) ≤ (cap : Int) := by omega
  have hk4 : (m : Int) ≤ (m : Int) + 1 := by omega
  have hk5 : ¬ cap = m := by omega
  by_cases hcj : cap = i + 1
  · have hmi : m = i := by omega
    have hs := hself hmi
    rw [hs] at hclr HFin
    subst hmi
    subst hcj
    clear hld hst hself hs him2
    go_enter Tryz.func93, Tryz.ntmps93
    go_wp2
    go_region
    go_wp2_with (at_builtin; refine wpl_clear _ rfl _ 91 rfl _ rfl (hclr _ _) ?_)
    go_ret
    exact HFin.out
  · clear hself
    go_enter Tryz.func93, Tryz.ntmps93
    go_wp2
    go_region
    go_wp2_with (at_builtin; refine wpl_clear _ rfl _ 91 rfl _ rfl (hclr _ _) ?_)
    go_ret
    exact HFin.out

end Go.Proofs.YtecdibpiojgppaaGreat

/- Copies of things and of stores, in new memory. -/
namespace Go.Proofs.YtecdibpiojgppaaGreat
open Go.RowKit

theorem infoItem : (Tryz.prog.info? 95).map (fun i => (i.zero, i.size, i.bytes)) = some (some (.agg #[.string ByteArray.empty, .slice none 0 0]), 2, 40) := by kernel_rfl

/-- What a copy of a store leaves: a slice of its own. -/
def Copied (its : List Item) (w : World) (e : Ending) (w' : World) : Prop :=
  ∃ g, e = .returned (.agg #[.slice (some ⟨g, 0, none⟩) its.length its.length]) ∧ w.heap.size ≤ g ∧ Mine 95 3 w' g its its.length its.length ∧ Below w.heap.size w w'

end Go.Proofs.YtecdibpiojgppaaGreat
