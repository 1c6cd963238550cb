/- Texts that follow each other, merged: Del, ExTo. -/
import Derived.Test.YtkamlibfcakblaaXIns
import Derived.Test.YtkamlibfcakblaaXExItems

/- slices.Delete of one thing of the call's own. -/
namespace Go.Proofs.Ytkamlibfcakblaa
open Go.RowKit Go.Shelf

/-- The cells of a row out of which one was taken. -/
theorem drop_row {cur F z : List Value} {m i d cap : Nat} (hc : cur.length = cap * d) (hF : cur.take ((m + 1) * d) = F) (hz : z.length = d) (hi : i ≤ m) (hn : m + 1 ≤ cap) :
    ((cur.take (i * d) ++ F.drop ((i + 1) * d) ++ cur.drop (i * d + (F.drop ((i + 1) * d)).length)).take (m * d) ++ z ++ (cur.take (i * d) ++ F.drop ((i + 1) * d) ++ cur.drop (i * d + (F.drop ((i + 1) * d)).length)).drop (m * d + z.length)).take (m * d) = F.take (i * d) ++ F.drop ((i + 1) * d) ∧
    ((cur.take (i * d) ++ F.drop ((i + 1) * d) ++ cur.drop (i * d + (F.drop ((i + 1) * d)).length)).take (m * d) ++ z ++ (cur.take (i * d) ++ F.drop ((i + 1) * d) ++ cur.drop (i * d + (F.drop ((i + 1) * d)).length)).drop (m * d + z.length)).length = cap * d ∧
    (cur.take (i * d) ++ F.drop ((i + 1) * d) ++ cur.drop (i * d + (F.drop ((i + 1) * d)).length)).length = cap * d := by
  have h1 : (i + 1) * d = i * d + d := by rw [Nat.add_mul, Nat.one_mul]
  have h2 : (m + 1) * d = m * d + d := by rw [Nat.add_mul, Nat.one_mul]
  have h3 := Nat.mul_le_mul_right d hi
  have h4 := Nat.mul_le_mul_right d hn
  have hFl : F.length = (m + 1) * d := by rw [← hF, List.length_take]; omega
  have hT : cur.take (i * d) = F.take (i * d) := by rw [← hF, List.take_take]; congr 1; omega
  have e1 : (cur.take (i * d) ++ F.drop ((i + 1) * d) ++ cur.drop (i * d + (F.drop ((i + 1) * d)).length)).take (m * d) = F.take (i * d) ++ F.drop ((i + 1) * d) := by
    rw [hT]
    refine List.take_left' ?_
    simp only [List.length_append, List.length_take, List.length_drop, hFl]; omega
  refine ⟨?_, ?_, ?_⟩
  · rw [e1, List.append_assoc]
    refine List.take_left' ?_
    simp only [List.length_append, List.length_take, List.length_drop, hFl]; omega
  · simp only [List.length_append, List.length_take, List.length_drop, hFl, hz, hc]; omega
  · simp only [List.length_append, List.length_take, List.length_drop, hFl, hc]; omega

theorem zeroItem : (Builtin.zeroCells (Value.agg #[.string ByteArray.empty, .slice none 0 0]).cells 1).toList = [.string ByteArray.empty, .slice none 0 0] := by kernel_rfl
theorem zeroSize : (Builtin.zeroCells (Value.agg #[.string ByteArray.empty, .slice none 0 0]).cells 1).size = 2 := by kernel_rfl
theorem zeroRun (w : World) : (zeroValue 104).run Try.prog w = .ok (.agg #[.string ByteArray.empty, .slice none 0 0]) w := by
  obtain ⟨i0, hi0, hz0, -, -⟩ := infoItemParts
  simp [zeroValue, typeInfo, hi0, hz0]

set_option maxRecDepth 100000 in
set_option maxHeartbeats 4000000 in
theorem delete_any (w : World) (S : Nat → Prop) (v : Value) (its : List Item) (hv : itSh.Own 104 w S v its) (hl : its.length ≤ 1048576) (i : Nat) (hi : i < its.length) :
    Calls Try.prog 124 #[v, .int .i64 i, .int .i64 ((i : Int) + 1)] w (Changed S v (delAt its i) w) := by
  rcases hv.form with ⟨-, rfl⟩ | ⟨g, cap, rfl, -, -, -, -⟩
  · simp at hi
  obtain ⟨C, F, hrow, h2, h3, h4⟩ := hv
  rcases hrow.2 with ⟨h', _⟩ | ⟨g', cap', cur, h', hb, hg, hnc, hcm, hcs, htake⟩
  · simp at h'
  simp only [Value.slice.injEq, Option.some.injEq, Addr.mk.injEq, and_true, true_and] at h'
  obtain ⟨rfl, rfl⟩ := h'
  have hwd : itSh.wd = 2 := rfl
  rw [hwd] at hrow hcs htake
  have hC : ∀ j, j < its.length → (C j).length = 2 := fun j hj => itSh.olen (h3 j _ (List.getElem?_eq_getElem hj)).1
  have hFl := flat_len hC
  have hone : ∀ v ∈ flat C its.length, v.oneCell' = true := by
    intro x hx
    obtain ⟨j, hj, hx⟩ := List.mem_flatMap.1 hx
    exact itSh.oone (h3 j _ (List.getElem?_eq_getElem (List.mem_range.1 hj))).1 x hx
  have hcell : ∀ j x, (flat C its.length)[j]? = some x → w.cell? ⟨g, j, none⟩ = some x := by
    intro j x hx
    have hj := (List.getElem?_eq_some_iff.1 hx).1
    rw [cell_of_row w g j cur _ _ hg, ← hx, ← htake, List.getElem?_take, if_pos (by omega)]
    simp
  obtain ⟨i0, hi0, hz0, hs0, hb0⟩ := infoItemParts
  obtain ⟨m, hm⟩ : ∃ m, its.length = m + 1 := ⟨its.length - 1, by omega⟩
  rw [hm] at hi hFl hl hrow htake hnc hcell hone
  have HM := Lib.hid hm
  rw [hm]
  unfold maxLen at hcm
  have hcur : cur.size = cap * 2 := hcs
  have hcl : cur.toList.length = cap * 2 := by simpa using hcur
  obtain ⟨L1, hL1⟩ : ∃ L1, L1 = (cur.toList.take (i * 2) ++ (flat C (m + 1)).drop ((i + 1) * 2) ++ cur.toList.drop (i * 2 + ((flat C (m + 1)).drop ((i + 1) * 2)).length)) := ⟨_, rfl⟩
  obtain ⟨L2, hL2⟩ : ∃ L2, L2 = (L1.take (m * 2) ++ [.string ByteArray.empty, .slice none 0 0] ++ L1.drop (m * 2 + [Value.string ByteArray.empty, .slice none 0 0].length)) := ⟨_, rfl⟩
  have hpure := drop_row (cur := cur.toList) (i := i) (m := m) (z := [.string ByteArray.empty, .slice none 0 0]) hcl htake rfl (by omega) hnc
  rw [← hL1, ← hL2] at hpure
  obtain ⟨e1, e2, e3⟩ := hpure
  have hdl : ((flat C (m + 1)).drop ((i + 1) * 2)).length = (m - i) * 2 := by rw [List.length_drop, hFl]; omega
  obtain ⟨cs, hcs'⟩ : ∃ cs, cs = (flat C (m + 1)).drop ((i + 1) * 2) := ⟨_, rfl⟩
  have hld : (loadCellsFrom ⟨g, (i + 1) * 2, none⟩ 0 ((m - i) * 2) #[]).run Try.prog w.drew = .ok cs.toArray w.drew := by
    have h := run_loadCells_list (P := Try.prog) w.drew ⟨g, (i + 1) * 2, none⟩ cs (fun j v hj => by
      rw [add_none]
      rw [hcs'] at hj
      exact hcell _ v (by rwa [List.getElem?_drop] at hj))
    rw [hcs', hdl, ← hcs'] at h
    exact h
  have hst : (storeCells ⟨g, i * 2, none⟩ cs).run Try.prog w.drew = .ok () (w.drew.setRow g L1.toArray) := by
    have h := run_storeCells_at Try.prog g (i * 2) 104 cs 0 cur w.drew hg (by rw [hcs', hdl, hcur]; omega) (fun v hv => hone v (List.mem_of_mem_drop (hcs' ▸ hv)))
    rw [hL1, ← hcs']
    exact h
  have him : i + (m - i) ≤ cap := by omega
  have him2 : i + (m - i) = m := by omega
  have hself : m = i → w.drew.setRow g L1.toArray = w.drew := by
    intro e
    have hcs0 : (flat C (m + 1)).drop ((i + 1) * 2) = [] := List.length_eq_zero_iff.1 (by rw [hdl, e]; omega)
    have : L1.toArray = cur := by rw [hL1, hcs0]; simp
    rw [this]
    exact setRow_self w.drew g cur _ _ hg
  have hgW : (w.drew.setRow g L1.toArray).heap[g]? = some (.cells L1.toArray 104 (0, 0)) := setRow_heap w.drew g cur _ _ _ hg
  have hclr : ∀ ty c, (Builtin.clear_ #[109] ty #[.slice (some ⟨g, m * 2, none⟩) 1 c]).run Try.prog (w.drew.setRow g L1.toArray) = .ok (.tuple #[]) ((w.drew.setRow g L1.toArray).setRow g L2.toArray) := fun ty c => by
    have h := run_clear_wide (P := Try.prog) (w.drew.setRow g L1.toArray) 109 104 ty (.agg #[.string ByteArray.empty, .slice none 0 0]) g (m * 2) 0 c L1.toArray 104 Try.underlying109 zeroRun
      (by rw [show 0 + 1 = 1 from rfl, zeroItem]; intro v hv; simp at hv; rcases hv with rfl | rfl <;> rfl) hgW (by rw [show 0 + 1 = 1 from rfl, zeroSize]; simp [e3]; omega)
    rw [show 0 + 1 = 1 from rfl, zeroItem, zeroSize] at h
    rw [hL2]
    exact h
  have HFin : Hid (Changed S (.slice (some ⟨g, 0, none⟩) its.length cap) (delAt its i) w (.returned (.slice (some ⟨g, 0, none⟩) m cap)) ((w.drew.setRow g L1.toArray).setRow g L2.toArray)) := by
    refine Lib.hid ⟨_, rfl, ?_, ?_⟩
    · refine (Sh.Own.deleted (A := itSh) (w := w) (S := S) (v := .slice (some ⟨g, 0, none⟩) its.length cap) (v' := .slice (some ⟨g, 0, none⟩) m cap) (C := C) (F := F) (i := i) (by omega) h2 h3 h4 ?_ rfl ?_).mono fun b hb => Or.inl hb
      · rw [setRow_setRow, HM.out, show m + 1 - 1 = m from rfl]
        have hCi : ∀ j, j < m → (delF C i j).length = 2 := fun j hj => by
          unfold delF; split
          · exact hC j (by omega)
          · exact hC _ (by omega)
        refine ⟨by rw [hwd, flat_len hCi], .inr ⟨g, cap, L2.toArray, rfl, Nat.zero_le _, setRow_heap w.drew g cur _ _ _ hg, by omega, by unfold maxLen; omega, by rw [hwd]; simpa using e2, ?_⟩⟩
        rw [hwd]
        show L2.take (m * 2) = _
        rw [e1]
        exact flat_del (n := m + 1) (fun j hj => hC j (by omega)) hi
      · intro b _ hb
        rw [setRow_setRow]
        exact setRow_other w.drew g b _ (fun e => hb (by rw [e]; rfl))
    · rw [setRow_setRow]
      exact ⟨rfl, rfl, rfl, by simp [World.setRow], fun k _ hk => setRow_other w.drew g k _ (fun e => hk (by rw [e]; rfl))⟩
  rw [HM.out] at HFin
  clear hrow h2 h3 h4 hC hFl hone hcell hL1 hL2 hdl htake hcs hm hi0 hz0 hs0 hb0 hgW e1 e2 e3 hcs'
  have mixed : Try.prog.follows .mixedOrders = true := by kernel_rfl
  have hz2 : ¬ ((i : Int) = (i : Int) + 1) := by omega
  have hb1 : (0 : Int) ≤ (i : Int) + 1 := by omega
  have htn : ((i : Int) + 1).toNat = i + 1 := by omega
  have hk1 : (i : Int) + 1 ≤ (m : Int) + 1 := by omega
  have hk2 : (i : Int) ≤ (cap : Int) := by omega
  have hk4 : (m : Int) ≤ (m : Int) + 1 := by omega
  have hk5 : ¬ cap = m := by omega
  by_cases hcj : cap = i + 1
  · have hmi : m = i := by omega
    have hs := hself hmi
    rw [hs] at hclr HFin
    subst hmi
    subst hcj
    clear hld hst hself hs him2
    go_enter Try.func124, Try.ntmps124
    go_wp2
    go_region
    go_wp2_with (at_builtin; refine wpl_clear _ rfl _ 109 rfl _ rfl (hclr _ _) ?_)
    go_ret
    exact HFin.out
  · clear hself
    go_enter Try.func124, Try.ntmps124
    go_wp2
    go_region
    go_wp2_with (at_builtin; refine wpl_clear _ rfl _ 109 rfl _ rfl (hclr _ _) ?_)
    go_ret
    exact HFin.out

end Go.Proofs.Ytkamlibfcakblaa

/- Copies of things and of stores, in new memory. -/
namespace Go.Proofs.Ytkamlibfcakblaa
open Go.RowKit

theorem infoItem : (Try.prog.info? 104).map (fun i => (i.zero, i.size, i.bytes)) = some (some (.agg #[.string ByteArray.empty, .slice none 0 0]), 2, 40) := by kernel_rfl

theorem Mine.setFar {ti tn : TypeId} {w : World} {g : Nat} {its : List Item} {n k : Nat} (h : Mine ti tn w g its n k) {p : Addr} (hp : p.block < g) (u : Value) : Mine ti tn (w.setCell p u) g its n k :=
  h.kept fun b hb _ => Below.heap_setCell w p u b (by omega)

/-- What a copy of a store leaves: a slice of its own. -/
def Copied (its : List Item) (w : World) (e : Ending) (w' : World) : Prop :=
  ∃ g, e = .returned (.agg #[.slice (some ⟨g, 0, none⟩) its.length its.length]) ∧ w.heap.size ≤ g ∧ Mine 104 3 w' g its its.length its.length ∧ Below w.heap.size w w'

theorem eqStoItem_any (w : World) (key key' : ByteArray) (v u : Value) (xs ys : List Int) (hv : Ints w w.heap.size v xs) (hu : Ints w w.heap.size u ys) :
    Calls Try.prog 130 #[.agg #[.string key, v], .agg #[.string key', u]] w fun e w' =>
      e = .returned (.bool ((key.toList == key'.toList) && decide (xs = ys))) ∧ Below w.heap.size w w' := by
  obtain ⟨A, c, rfl, hc2, hc1⟩ := hv.form
  obtain ⟨A', c', rfl, hc2', hc1'⟩ := hu.form
  have HV := Lib.hid fun o1 o2 => (hv.alloc (Nat.le_refl _) o1).alloc (by simp) o2
  have HU := Lib.hid fun o1 o2 => (hu.alloc (Nat.le_refl _) o1).alloc (by simp) o2
  clear hv hu
  unfold maxLen at hc2 hc2'
  go_enter Try.func130, Try.ntmps130
  go_wp2_with (go_at_call 41; refine (eqIntS_any _ _ _ _ _ _ (HV.out _ _) (HU.out _ _)).mono ?_; rintro e w' ⟨rfl, n, rfl⟩)
  all_goals go_ret
  all_goals refine ⟨ret_bool (by simp_all), ?_⟩
  all_goals first | exact belowTwo _ _ _ | exact belowDraws (belowTwo _ _ _) _

set_option maxRecDepth 100000 in
/-- Two slices that read as the same things are the same. -/
theorem eqStoItemS_same (w : World) (v u : Value) (its : List Item) (hv : Items w w.heap.size v its) (hu : Items w w.heap.size u its) :
    Calls Try.prog 98 #[v, u] w fun e w' => e = .returned (.bool true) ∧ Below w.heap.size w w' := by
  obtain ⟨A, c, rfl, hc2, hc1⟩ := hv.form
  obtain ⟨A', c', rfl, hc2', hc1'⟩ := hu.form
  unfold maxLen at hc2 hc2'
  go_enter Try.func98, Try.ntmps98
  go_wp2
  go_loopw [5] (fun i wr => ∃ k : Nat, k ≤ its.length ∧ i = .int .i64 k ∧ Below w.heap.size w wr) (fun i _ => its.length - (intOf i).toNat)
  case atStart => exact ⟨0, Nat.zero_le _, rfl, Below.refl _ _⟩
  case round =>
    obtain ⟨k, hk, rfl, hb⟩ := hrel
    by_cases hlt : k < its.length
    · obtain ⟨b, off, d, it, x, e1, hit, hB, hks, ck, cu, hx⟩ := hv.at_ (k := k) hlt
      obtain ⟨b2, off2, d2, it2, x2, e2, hit2, hB2, hks2, ck2, cu2, hx2⟩ := hu.at_ (k := k) hlt
      rw [hit] at hit2
      injection hit2 with hit2
      subst hit2
      obtain ⟨Ax, cx, hxf, _, _⟩ := hx.form
      obtain ⟨Ay, cy, hyf, _, _⟩ := hx2.form
      subst hxf hyf
      injection e1 with e1a e1b e1c
      injection e2 with e2a e2b e2c
      subst e1a e2a
      clear e1b e1c e2b e2c hv hu hit
      have HS := Lib.hid fun (y : World) (hy : Below w.heap.size w y) => And.intro ((hy.cell (p := ⟨b, off + k * 2, none⟩) hB).trans ck) (And.intro ((hy.cell (p := ⟨b, off + k * 2 + 1, none⟩) hB).trans cu) (And.intro ((hy.cell (p := ⟨b2, off2 + k * 2, none⟩) hB2).trans ck2) ((hy.cell (p := ⟨b2, off2 + k * 2 + 1, none⟩) hB2).trans cu2)))
      have HX := Lib.hid fun (y : World) (hy : Below w.heap.size w y) => (hx.below hy).more hy.size
      have HX2 := Lib.hid fun (y : World) (hy : Below w.heap.size w y) => (hx2.below hy).more hy.size
      obtain ⟨d1, d2, d3, d4⟩ := HS.out wr hb
      have hb0 := hb.drew
      have f3 : (0 : Int) ≤ (k : Int) := by omega
      have f4 : (k : Int) < (its.length : Int) := by omega
      clear ck cu ck2 cu2 hx hx2
      go_wp2
      go_region_held3 (fun w' => w'.cell? ⟨b, off + k * 2, none⟩ = some (.string it.key) ∧ w'.cell? ⟨b, off + k * 2 + 1, none⟩ = some (.slice Ax it.val.length cx) ∧ w'.cell? ⟨b2, off2 + k * 2, none⟩ = some (.string it.key) ∧ w'.cell? ⟨b2, off2 + k * 2 + 1, none⟩ = some (.slice Ay it.val.length cy))
        (first | exact HS.out _ hb0 | exact HS.out _ (by assumption))
        (first | (go_at_call 130; refine (eqStoItem_any _ _ _ _ _ it.val it.val (HX.out _ hb0) (HX2.out _ hb0)).mono ?_; rintro e w' ⟨rfl, hb'⟩; have hq := belowNext hb0 hb'; clear hb'))
      go_wp2
      go_roundw
      case rel => exact ⟨k + 1, by omega, by go_num, by assumption⟩
      case measure => simp [intOf]; omega
    · clear hv hu
      go_wp2
      go_ret
      exact ⟨rfl, hb⟩

theorem eqStoStore_same (w : World) (v u : Value) (its : List Item) (hv : Items w w.heap.size v its) (hu : Items w w.heap.size u its) :
    Calls Try.prog 49 #[.agg #[v], .agg #[u]] w fun e w' => e = .returned (.bool true) ∧ Below w.heap.size w w' := by
  obtain ⟨A, c, rfl, hc2, hc1⟩ := hv.form
  obtain ⟨A', c', rfl, hc2', hc1'⟩ := hu.form
  have HV := Lib.hid fun o1 o2 => ((hv.alloc (Nat.le_refl _) o1).alloc (by simp) o2).more (B' := ((w.alloc o1).alloc o2).heap.size) (by simp; omega)
  have HU := Lib.hid fun o1 o2 => ((hu.alloc (Nat.le_refl _) o1).alloc (by simp) o2).more (B' := ((w.alloc o1).alloc o2).heap.size) (by simp; omega)
  clear hv hu
  go_enter Try.func49, Try.ntmps49
  go_wp2_with (go_at_call 98; refine (eqStoItemS_same _ _ _ _ (HV.out _ _) (HU.out _ _)).mono ?_; rintro e w1 ⟨rfl, hb1⟩; have HB := Lib.hid (belowNext (belowTwo _ _ _) hb1); clear hb1)
  go_ret
  exact ⟨rfl, HB.out⟩

end Go.Proofs.Ytkamlibfcakblaa
