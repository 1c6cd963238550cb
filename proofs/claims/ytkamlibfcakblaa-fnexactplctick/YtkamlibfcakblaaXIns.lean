/- Texts that follow each other, merged: Ins, Ins2. -/
import Derived.Test.YtkamlibfcakblaaXRowOps
import Derived.Test.YtkamlibfcakblaaXMark
import Derived.Lib.Overlaps
import Derived.Lib.AppendZerosOnto
import Derived.Shelf.RegionOpenPlain
import Derived.WalkKit
import Derived.Lib.Walk

/- slices.Insert of one thing, and slices.Delete of one, at things of the call's own. -/
namespace Go.Proofs.Ytkamlibfcakblaa
open Go.RowKit Go.Shelf

section
variable {P : Program}
theorem wpl_copy (w : World) {ops : Array Oper} {rest : List Oper} {o : Oper} {a : Act} {Q : Exit → Act → World → Prop} (hgd : o.guard = none) (d s : Operand) (t t' : TypeId)
    (ho : o.op = .call { callee := .builtin .copy, args := #[d, s], argTypes := #[t, t'] }) (v u : Value) (hd : a.eval d = v) (hs : a.eval s = u) {v' : Value} {w' : World}
    (hr : (Builtin.copy_ #[t, t'] o.type #[v, u]).run P w = .ok v' w') (h : wpList P ops Q rest (a.put o.dst v') w') : wpList P ops Q (o :: rest) a w := by
  refine wpList_plain hgd fun K hK => ?_
  unfold Oper.wp execOp
  simp only [ho, resolve, invoke, builtin, Sem.run_bind, Sem.run_pure, Result.andThen_ok, List.map_toArray, List.map_cons, List.map_nil, hd, hs, hr]
  exact hK _ _ h
theorem wpl_clear (w : World) {ops : Array Oper} {rest : List Oper} {o : Oper} {a : Act} {Q : Exit → Act → World → Prop} (hgd : o.guard = none) (d : Operand) (t : TypeId)
    (ho : o.op = .call { callee := .builtin .clear, args := #[d], argTypes := #[t] }) (v : Value) (hd : a.eval d = v) {v' : Value} {w' : World}
    (hr : (Builtin.clear_ #[t] o.type #[v]).run P w = .ok v' w') (h : wpList P ops Q rest (a.put o.dst v') w') : wpList P ops Q (o :: rest) a w := by
  refine wpList_plain hgd fun K hK => ?_
  unfold Oper.wp execOp
  simp only [ho, resolve, invoke, builtin, Sem.run_bind, Sem.run_pure, Result.andThen_ok, List.map_toArray, List.map_cons, List.map_nil, hd, hr]
  exact hK _ _ h
theorem wpl_append_run (w : World) {ops : Array Oper} {rest : List Oper} {o : Oper} {a : Act} {Q : Exit → Act → World → Prop} (hgd : o.guard = none) (d s : Operand) (t t' : TypeId)
    (ho : o.op = .call { callee := .builtin .append, args := #[d, s], argTypes := #[t, t'] }) (v u : Value) (hd : a.eval d = v) (hs : a.eval s = u) {v' : Value} {w' : World}
    (hr : (Builtin.append_ #[t, t'] o.type #[v, u]).run P w = .ok v' w') (h : wpList P ops Q rest (a.put o.dst v') w') : wpList P ops Q (o :: rest) a w := by
  refine wpList_plain hgd fun K hK => ?_
  unfold Oper.wp execOp
  simp only [ho, resolve, invoke, builtin, Sem.run_bind, Sem.run_pure, Result.andThen_ok, List.map_toArray, List.map_cons, List.map_nil, hd, hs, hr]
  exact hK _ _ h
theorem step_copy {ops : Array Oper} {o : Oper} {a : Act} {w : World} {K : Act → World → Prop} {Q : Exit → Act → World → Prop} {E : Prop}
    (hg : o.guard = none) (d x : Operand) (dT sT : TypeId) (hop : o.op = Op.call { callee := Callee.builtin Builtin.copy, args := #[d, x], argTypes := #[dT, sT] })
    (v u : Value) (hd : a.eval d = v) (hx : a.eval x = u) {v' : Value} {w' : World} (hr : (Builtin.copy_ #[dT, sT] o.type #[v, u]).run P w = .ok v' w') (hK : K (a.put o.dst v') w') :
    if Region.wanted o (yielded ops a.tmps) = true then Oper.wp P o a w K Q else E := by
  have hw : Region.wanted o (yielded ops a.tmps) = true := by simp [Region.wanted, hg]
  rw [if_pos hw]
  unfold Oper.wp
  simp [execOp, hop, resolve, invoke, builtin, hd, hx, hr, Result.andThen]
  exact hK
theorem step_app {ops : Array Oper} {o : Oper} {a : Act} {w : World} {K : Act → World → Prop} {Q : Exit → Act → World → Prop} {E : Prop}
    (hg : o.guard = none) (d x : Operand) (dT sT : TypeId) (hop : o.op = Op.call { callee := Callee.builtin Builtin.append, args := #[d, x], argTypes := #[dT, sT] })
    (v u : Value) (hd : a.eval d = v) (hx : a.eval x = u) {v' : Value} {w' : World} (hr : (Builtin.append_ #[dT, sT] o.type #[v, u]).run P w = .ok v' w') (hK : K (a.put o.dst v') w') :
    if Region.wanted o (yielded ops a.tmps) = true then Oper.wp P o a w K Q else E := by
  have hw : Region.wanted o (yielded ops a.tmps) = true := by simp [Region.wanted, hg]
  rw [if_pos hw]
  unfold Oper.wp
  simp [execOp, hop, resolve, invoke, builtin, hd, hx, hr, Result.andThen]
  exact hK
theorem append_types {t t2 e e2 : TypeId} (ht : P.underlying t = some (.slice e)) (ht2 : P.underlying t2 = some (.slice e2)) (ty : TypeId) (b b' : Option Addr) (n c n' c' : Nat) (w : World) :
    (Builtin.append_ #[t, t2] ty #[.slice b n c, .slice b' n' c']).run P w = (Builtin.append_ #[t, t] ty #[.slice b n c, .slice b' n' c']).run P w := by
  simp [Builtin.append_, run_underlying ht, run_underlying ht2, Builtin.lenOf]
end

theorem infoItem2 : (Try.prog.info? 104).map (fun i => (i.zero, i.size, i.bytes)) = some (some (.agg #[.string ByteArray.empty, .slice none 0 0]), 2, 40) := by kernel_rfl
theorem infoItemParts : ∃ i, Try.prog.info? 104 = some i ∧ i.zero = some (.agg #[.string ByteArray.empty, .slice none 0 0]) ∧ i.size = 2 ∧ i.bytes = 40 := by
  obtain ⟨i, hi, hzz⟩ := Option.map_eq_some_iff.1 infoItem2
  simp only [Prod.mk.injEq] at hzz
  exact ⟨i, hi, hzz.1, hzz.2.1, hzz.2.2⟩

/-- What a thing put in, or taken out, leaves. -/
def Changed (S : Nat → Prop) (v : Value) (xs : List Item) (w : World) (e : Ending) (w' : World) : Prop :=
  ∃ v', e = .returned v' ∧ itSh.Own 104 w' (fun b => S b ∨ w.heap.size ≤ b) v' xs ∧ w.grownBy w' v.ownBlock

set_option maxRecDepth 100000 in
set_option maxHeartbeats 2000000 in
/-- At the end. -/
theorem insert_end (w : World) (S S' : Nat → Prop) (v : Value) (its : List Item) (hv : itSh.Own 104 w S v its) (hl : its.length ≤ 1048576) (it : Item) (vb : Nat) (u : Value) (hit : itSh.own w S' [.string it.key, u] it)
    (hvb : w.heap[vb]? = some (.cells #[.string it.key, u] 104 (0, 0))) (hdis : ∀ b, S b → ¬ S' b) :
    Calls Try.prog 125 #[v, .int .i64 its.length, .slice (some ⟨vb, 0, none⟩) 1 1] w (Changed (fun b => S b ∨ S' b) v (insAt its its.length it) w) := by
  obtain ⟨i, hi, hz, hs, hby⟩ := infoItemParts
  have hsrc : Held w vb [.string it.key, u] := by
    refine ⟨(Array.getElem?_eq_some_iff.1 hvb).1, fun j => by simp [World.frozen?, hvb], fun j x hx => by simp [World.cell?, hvb]; simpa using hx⟩
  have hrun := fun ty => Sh.append_one (P := Try.prog) (A := itSh) (t := 109) i _ 40 Try.underlying109 hi hz hs hby rfl (by decide) hv vb _ it hit hsrc hdis ty hl (by omega)
  have HIns : Hid (insAt its its.length it = its ++ [it]) := Lib.hid (by simp [insAt])
  obtain ⟨A, c, rfl, hc2, hc1⟩ := hv.row.form
  unfold maxLen at hc2
  have HV := Lib.hid hv
  clear hv
  go_enter Try.func125, Try.ntmps125
  go_wp2_with (at_builtin; obtain ⟨v', w', hr, ho, hg, -⟩ := hrun 109; refine wpl_append_run _ rfl _ _ _ _ rfl _ _ rfl rfl ((append_types Try.underlying109 Try.underlying52 _ _ _ _ _ _ _ _).trans hr) ?_)
  all_goals (
    go_ret
    refine ⟨_, rfl, ?_, (by first | exact hg | (cases A <;> exact hg))⟩
    rw [HIns.out]
    refine Sh.Own.mono ho fun b hb => ?_
    rcases hb with hb | hb | hb
    · exact .inl (.inl hb)
    · exact .inl (.inr hb)
    · exact .inr (Nat.le_of_eq hb.symm))

set_option maxRecDepth 100000 in
set_option maxHeartbeats 4000000 in
/-- In the midst, where there is room: in place. -/
theorem insert_room (w : World) (S S' : Nat → Prop) (g cap : Nat) (its : List Item) (hv : itSh.Own 104 w S (.slice (some ⟨g, 0, none⟩) its.length cap) its) (hl : its.length ≤ 1048576) (i : Nat) (hi : i < its.length) (hroom : its.length + 1 ≤ cap) (it : Item) (vb : Nat) (u : Value) (hit : itSh.own w S' [.string it.key, u] it)
    (hvb : w.heap[vb]? = some (.cells #[.string it.key, u] 104 (0, 0))) (hne : vb ≠ g) (hdis : ∀ b, S b → ¬ S' b) :
    Calls Try.prog 125 #[.slice (some ⟨g, 0, none⟩) its.length cap, .int .i64 i, .slice (some ⟨vb, 0, none⟩) 1 1] w (Changed (fun b => S b ∨ S' b) (.slice (some ⟨g, 0, none⟩) its.length cap) (insAt its i it) w) := by
  obtain ⟨C, F, hrow, h2, h3, h4⟩ := hv
  rcases hrow.2 with ⟨h', _⟩ | ⟨g', cap', cur, h', hb, hg, hnc, hcm, hcs, htake⟩
  · simp at h'
  simp only [Value.slice.injEq, Option.some.injEq, Addr.mk.injEq, and_true, true_and] at h'
  obtain ⟨rfl, rfl⟩ := h'
  have hwd : itSh.wd = 2 := rfl
  rw [hwd] at hrow hcs htake
  have hC : ∀ j, j < its.length → (C j).length = 2 := fun j hj => itSh.olen (h3 j _ (List.getElem?_eq_getElem hj)).1
  have hFl := flat_len hC
  have hone : ∀ v ∈ flat C its.length, v.oneCell' = true := by
    intro x hx
    obtain ⟨j, hj, hx⟩ := List.mem_flatMap.1 hx
    exact itSh.oone (h3 j _ (List.getElem?_eq_getElem (List.mem_range.1 hj))).1 x hx
  have hone2 : ∀ v ∈ [Value.string it.key, u], v.oneCell' = true := itSh.oone hit
  have hcell : ∀ j x, (flat C its.length)[j]? = some x → w.cell? ⟨g, j, none⟩ = some x := by
    intro j x hx
    have hj := (List.getElem?_eq_some_iff.1 hx).1
    rw [cell_of_row w g j cur _ _ hg, ← hx, ← htake, List.getElem?_take, if_pos (by omega)]
    simp
  have hsz : (Try.prog.info? 104).map (·.size) = some 2 := by
    obtain ⟨i0, hi0, -, h1, -⟩ := infoItemParts
    rw [hi0]; simp [h1]
  have hszr : ∀ w, (Go.sizeOf 104).run Try.prog w = .ok 2 w := fun w => by
    obtain ⟨i0, hi0, -, h1, -⟩ := infoItemParts
    simp [sizeOf, typeInfo, hi0, h1]
  obtain ⟨n, hn⟩ : ∃ n, its.length = n := ⟨_, rfl⟩
  rw [hn] at hi hroom hFl hl hrow htake hnc hcell hone
  have HN := Lib.hid hn
  rw [hn]
  unfold maxLen at hcm
  have hcur : cur.size = cap * 2 := hcs
  have hov : ∀ lb cb, (callFunc 141 #[.slice (some ⟨vb, 0, none⟩) 1 1, .slice (some ⟨g, (i + 1) * 2, none⟩) lb cb]).run Try.prog w = .ok (.value (.bool false)) w := fun lb cb => by
    rw [run_callFunc_extern Try.func141 (by kernel_rfl) (by kernel_rfl) (by kernel_rfl) (e := Extern.SlicesOverlaps.overlaps #[52, 52] #[4]) (by kernel_rfl),
      Lib.run_overlaps_apart w 52 4 104 Try.underlying52 2 hszr ⟨vb, 0, none⟩ ⟨g, (i + 1) * 2, none⟩ 1 1 lb cb hne 104 104 2 (cap * 2) (by simp [World.shape?, hvb]) (by simp [World.shape?, hg, hcur]) (by omega) (by simp [World.frozen?, hvb]) (by simp [World.frozen?, hvb])]
    rfl
  obtain ⟨L1, hL1⟩ : ∃ L1, L1 = (cur.toList.take ((i + 1) * 2) ++ (flat C n).drop (i * 2) ++ cur.toList.drop ((i + 1) * 2 + ((flat C n).drop (i * 2)).length)) := ⟨_, rfl⟩
  have hdl : ((flat C n).drop (i * 2)).length = (n - i) * 2 := by rw [List.length_drop, hFl, Nat.sub_mul]
  have hcp1 : ∀ ty dc sc, (Builtin.copy_ #[109, 109] ty #[.slice (some ⟨g, (i + 1) * 2, none⟩) (n - i) dc, .slice (some ⟨g, i * 2, none⟩) (n + 1 - i) sc]).run Try.prog w.drew = .ok (goInt (Nat.min (n + 1 - i) (n - i))) (w.drew.setRow g L1.toArray) := fun ty dc sc => by
    rw [hL1]
    exact run_copy_wide w.drew _ _ ty 104 2 g ((i + 1) * 2) (n - i) dc ⟨g, i * 2, none⟩ (n + 1 - i) sc cur 104 ((flat C n).drop (i * 2)) Try.underlying109 hsz hg
      (by rw [hdl]; congr 1; simp only [Nat.min_def]; split <;> omega)
      (fun j v hj => by rw [add_none]; exact hcell _ v (by rwa [List.getElem?_drop] at hj)) (by rw [hdl, hcur]; omega) (fun v hv => hone v (List.mem_of_mem_drop hv))
  have hL1l : L1.length = cap * 2 := by
    rw [hL1]; simp only [List.length_append, List.length_take, List.length_drop, Array.length_toList, hFl, hcur]; omega
  have hgW : (w.drew.setRow g L1.toArray).heap[g]? = some (.cells L1.toArray 104 (0, 0)) := setRow_heap w.drew g cur _ _ _ hg
  have hvW : (w.drew.setRow g L1.toArray).heap[vb]? = some (.cells #[.string it.key, u] 104 (0, 0)) := (setRow_other w.drew g vb _ hne).trans hvb
  obtain ⟨L2, hL2⟩ : ∃ L2, L2 = (L1.take (i * 2) ++ [.string it.key, u] ++ L1.drop (i * 2 + [Value.string it.key, u].length)) := ⟨_, rfl⟩
  have hcp2 : ∀ ty dc, (Builtin.copy_ #[109, 52] ty #[.slice (some ⟨g, i * 2, none⟩) (n + 1 - i) dc, .slice (some ⟨vb, 0, none⟩) 1 1]).run Try.prog (w.drew.setRow g L1.toArray) = .ok (goInt (Nat.min 1 (n + 1 - i))) ((w.drew.setRow g L1.toArray).setRow g L2.toArray) := fun ty dc => by
    rw [hL2]
    exact run_copy_wide _ _ _ ty 104 2 g (i * 2) (n + 1 - i) dc ⟨vb, 0, none⟩ 1 1 L1.toArray 104 [.string it.key, u] Try.underlying109 hsz hgW
      (by have : Nat.min 1 (n + 1 - i) = 1 := by simp only [Nat.min_def]; split <;> omega
          rw [this]; rfl)
      (fun j v hj => by rw [add_none, Nat.zero_add]; simp [World.cell?, hvW]; simpa using hj) (by simp [hL1l]; omega) hone2
  have HFin : Hid (Changed (fun b => S b ∨ S' b) (.slice (some ⟨g, 0, none⟩) its.length cap) (insAt its i it) w (.returned (.slice (some ⟨g, 0, none⟩) (n + 1) cap)) ((w.drew.setRow g L1.toArray).setRow g L2.toArray)) := by
    refine Lib.hid ⟨_, rfl, ?_, ?_⟩
    · refine (Sh.Own.inserted (A := itSh) (w := w) (S := S) (S' := S') (v := .slice (some ⟨g, 0, none⟩) its.length cap) (cs := [.string it.key, u]) (C := C) (F := F) (by omega) h2 h3 h4 hit hdis ?_ ?_ ?_).mono fun b hb => or_assoc.2 hb
      · rw [setRow_setRow, HN.out]
        have hcl : cur.toList.length = cap * 2 := by simpa using hcur
        have e1 := shift_row (cur := cur.toList) (x := [.string it.key, u]) hcl htake rfl (Nat.le_of_lt hi) hroom
        have e2 := shift_size (cur := cur.toList) (F := flat C n) (x := [.string it.key, u]) hcl hFl rfl (Nat.le_of_lt hi) hroom
        rw [← hL1, ← hL2] at e1 e2
        have hCi : ∀ j, j < n + 1 → (insF C i [.string it.key, u] j).length = 2 := fun j hj => by
          unfold insF; split
          · exact hC j (by omega)
          · split
            · rfl
            · exact hC _ (by omega)
        refine ⟨by rw [hwd, flat_len hCi], .inr ⟨g, cap, L2.toArray, rfl, Nat.zero_le _, setRow_heap w.drew g cur _ _ _ hg, hroom, by unfold maxLen; omega, by rw [hwd]; simpa using e2, ?_⟩⟩
        · rw [hwd]
          show L2.take ((n + 1) * 2) = _
          rw [e1]
          exact flat_ins (fun j hj => hC j (by omega)) rfl (Nat.le_of_lt hi)
      · intro q hq
        exact .inl (by simpa [Value.ownBlock] using hq)
      · intro b _ hb
        rw [setRow_setRow]
        exact setRow_other w.drew g b _ (fun e => hb (by rw [e]; rfl))
    · rw [setRow_setRow]
      exact ⟨rfl, rfl, rfl, by simp [World.setRow], fun k _ hk => setRow_other w.drew g k _ (fun e => hk (by rw [e]; rfl))⟩
  rw [HN.out] at HFin
  clear hrow h2 h3 h4 hC hFl hone hone2 hcell hsz hszr hL1 hL2 hdl hL1l hgW hvW htake hcs hit hdis hvb hn
  have mixed : Try.prog.follows .mixedOrders = true := by kernel_rfl
  have hb1 : (0 : Int) ≤ (i : Int) + 1 := by omega
  have hb3 : (i : Int) ≤ (n : Int) + 1 := by omega
  have hb2 : ¬ (cap = i + 1) := by omega
  have hb4 : ¬ (cap = i) := by omega
  have hin : i ≤ n := by omega
  have htn : ((i : Int) + 1).toNat = i + 1 := by omega
  have hz2 : ¬ ((i : Int) = (n : Int)) := by omega
  have hw1 : IntKind.i64.wrap ((i : Int) + 1) = (i : Int) + 1 := by rw [IntKind.wrap_i64]; omega
  go_enter Try.func125, Try.ntmps125
  go_wp2_with (simp only [hov])
  go_region_law_o (refine step_copy rfl _ _ 109 109 rfl _ _ (by simp [Act.eval, Act.put]) (by simp [Act.eval, Act.put]) (hcp1 _ _ _) ?_)
  go_wp2_with (at_builtin; refine wpl_copy _ rfl _ _ 109 52 rfl _ _ rfl rfl (hcp2 _ _) ?_)
  go_ret
  exact HFin.out

end Go.Proofs.Ytkamlibfcakblaa

/- slices.Insert of one thing where there is no room: a new row; and wherever it goes. -/
namespace Go.Proofs.Ytkamlibfcakblaa
open Go.RowKit Go.Shelf

/-- The cells of a new row behind both copies. -/
theorem grow_row {row F x : List Value} {n i d G : Nat} (hR : row.take (i * d) = F.take (i * d)) (hFl : F.length = n * d) (hx : x.length = d) (hi : i ≤ n) (hn : n + 1 ≤ G) :
    ((row.take (i * d) ++ x ++ row.drop (i * d + x.length)).take ((i + 1) * d) ++ F.drop (i * d) ++ (row.take (i * d) ++ x ++ row.drop (i * d + x.length)).drop ((i + 1) * d + (F.drop (i * d)).length)).take ((n + 1) * d) = F.take (i * d) ++ x ++ F.drop (i * d) := by
  have h1 : (i + 1) * d = i * d + d := by rw [Nat.add_mul, Nat.one_mul]
  have h2 : (n + 1) * d = n * d + d := by rw [Nat.add_mul, Nat.one_mul]
  have h3 := Nat.mul_le_mul_right d hi
  have h4 := Nat.mul_le_mul_right d hn
  have e1 : (row.take (i * d) ++ x ++ row.drop (i * d + x.length)).take ((i + 1) * d) = F.take (i * d) ++ x := by
    rw [hR]
    refine List.take_left' ?_
    simp only [List.length_append, List.length_take, hFl, hx]; omega
  rw [e1]
  refine List.take_left' ?_
  simp only [List.length_append, List.length_take, List.length_drop, hFl, hx]; omega
theorem grow_size {row F x : List Value} {n i d G : Nat} (hc : row.length = G * d) (hFl : F.length = n * d) (hx : x.length = d) (hi : i ≤ n) (hn : n + 1 ≤ G) :
    ((row.take (i * d) ++ x ++ row.drop (i * d + x.length)).take ((i + 1) * d) ++ F.drop (i * d) ++ (row.take (i * d) ++ x ++ row.drop (i * d + x.length)).drop ((i + 1) * d + (F.drop (i * d)).length)).length = G * d := by
  have h1 : (i + 1) * d = i * d + d := by rw [Nat.add_mul, Nat.one_mul]
  have h2 : (n + 1) * d = n * d + d := by rw [Nat.add_mul, Nat.one_mul]
  have h3 := Nat.mul_le_mul_right d hi
  have h4 := Nat.mul_le_mul_right d hn
  simp only [List.length_append, List.length_take, List.length_drop, hFl, hx, hc]; omega

set_option maxRecDepth 100000 in
set_option maxHeartbeats 4000000 in
/-- In the midst, where there is no room. -/
theorem insert_grow (w : World) (S S' : Nat → Prop) (g cap : Nat) (its : List Item) (hv : itSh.Own 104 w S (.slice (some ⟨g, 0, none⟩) its.length cap) its) (hl : its.length ≤ 1048576) (i : Nat) (hi : i < its.length) (hroom : cap < its.length + 1) (it : Item) (vb : Nat) (u : Value) (hit : itSh.own w S' [.string it.key, u] it)
    (hvb : w.heap[vb]? = some (.cells #[.string it.key, u] 104 (0, 0))) (hdis : ∀ b, S b → ¬ S' b) :
    Calls Try.prog 125 #[.slice (some ⟨g, 0, none⟩) its.length cap, .int .i64 i, .slice (some ⟨vb, 0, none⟩) 1 1] w (Changed (fun b => S b ∨ S' b) (.slice (some ⟨g, 0, none⟩) its.length cap) (insAt its i it) w) := by
  obtain ⟨C, F, hrow, h2, h3, h4⟩ := hv
  rcases hrow.2 with ⟨h', _⟩ | ⟨g', cap', cur, h', hb, hg, hnc, hcm, hcs, htake⟩
  · simp at h'
  simp only [Value.slice.injEq, Option.some.injEq, Addr.mk.injEq, and_true, true_and] at h'
  obtain ⟨rfl, rfl⟩ := h'
  have hwd : itSh.wd = 2 := rfl
  rw [hwd] at hrow hcs htake
  have hC : ∀ j, j < its.length → (C j).length = 2 := fun j hj => itSh.olen (h3 j _ (List.getElem?_eq_getElem hj)).1
  have hFl := flat_len hC
  have hone : ∀ v ∈ flat C its.length, v.oneCell' = true := by
    intro x hx
    obtain ⟨j, hj, hx⟩ := List.mem_flatMap.1 hx
    exact itSh.oone (h3 j _ (List.getElem?_eq_getElem (List.mem_range.1 hj))).1 x hx
  have hone2 : ∀ v ∈ [Value.string it.key, u], v.oneCell' = true := itSh.oone hit
  have hcell : ∀ j x, (flat C its.length)[j]? = some x → w.cell? ⟨g, j, none⟩ = some x := by
    intro j x hx
    have hj := (List.getElem?_eq_some_iff.1 hx).1
    rw [cell_of_row w g j cur _ _ hg, ← hx, ← htake, List.getElem?_take, if_pos (by omega)]
    simp
  obtain ⟨i0, hi0, hz0, hs0, hb0⟩ := infoItemParts
  have hsz : (Try.prog.info? 104).map (·.size) = some 2 := by rw [hi0]; simp [hs0]
  obtain ⟨n, hn⟩ : ∃ n, its.length = n := ⟨_, rfl⟩
  rw [hn] at hi hroom hFl hl hrow htake hnc hcell hone
  have HN := Lib.hid hn
  rw [hn]
  unfold maxLen at hcm
  have hgw : g < w.heap.size := (Array.getElem?_eq_some_iff.1 hg).1
  have hvw : vb < w.heap.size := (Array.getElem?_eq_some_iff.1 hvb).1
  obtain ⟨G, hG⟩ : ∃ G, G = grownCap w (n + 1) cap 104 := ⟨_, rfl⟩
  have hGn : n + 1 ≤ G := by rw [hG]; exact grownCap_ge w _ _ _
  have hG63 : G ≤ 9223372036854775807 := by
    have := grownCap_le_maxLen w (n + 1) cap 104 (by unfold maxLen; omega)
    rw [← hG] at this
    unfold maxLen at this
    omega
  have hold : (Builtin.firstCells i0.size i (.slice (some ⟨g, 0, none⟩) i cap)).run Try.prog w.drew = .ok ((flat C n).take (i * 2)).toArray w.drew := by
    rw [hs0]
    exact run_firstCells_some w.drew 2 i ⟨g, 0, none⟩ i cap ((flat C n).take (i * 2)) (by rw [List.length_take, hFl]; omega) (fun j v hj => by
      rw [add_none, Nat.zero_add]
      rw [List.getElem?_take] at hj
      split at hj
      · exact hcell j v hj
      · cases hj)
  obtain ⟨ROW, hROW⟩ : ∃ ROW : Array Value, ROW = ((flat C n).take (i * 2)).toArray ++ Builtin.zeroCells (Value.agg #[.string ByteArray.empty, .slice none 0 0]).cells (n + 1 - i) ++ Builtin.zeroCells (Value.agg #[.string ByteArray.empty, .slice none 0 0]).cells (G - (n + 1)) := ⟨_, rfl⟩
  have hik : i + (n + 1 - i) = n + 1 := by omega
  have hkk : (n : Int) + 1 - (i : Int) = ((n + 1 - i : Nat) : Int) := by omega
  have hrz : ∀ ty, (Builtin.append_ #[109, 3] ty #[.slice (some ⟨g, 0, none⟩) i cap, .int .i64 ((n : Int) + 1 - (i : Int))]).run Try.prog w = .ok (.slice (some ⟨w.heap.size, 0, none⟩) (n + 1) G) (w.drew.alloc (.cells ROW 104)) := fun ty => by
    have h := Lib.run_append_grow_zeros (P := Try.prog) w 109 3 ty 104 i0 _ .i64 .i64 Try.underlying109 Try.underlying3 hi0 hz0 (some ⟨g, 0, none⟩) i cap ((flat C n).take (i * 2)) hold (n + 1 - i) (by omega) (by omega) (by omega) (by omega) (by rw [hb0]; omega) (by rw [hb0, hik]; exact growslice_fits hroom (by omega))
    rw [hik] at h
    rw [hkk, hROW, hG]
    exact h
  have hRs : ROW.toList.length = G * 2 := by
    rw [hROW]
    simp only [Array.toList_append, List.length_append, List.length_take, hFl, Array.length_toList, size_zeroCells]
    simp [Value.cells]; omega
  have hRt : ROW.toList.take (i * 2) = (flat C n).take (i * 2) := by
    rw [hROW]
    simp only [Array.toList_append, List.append_assoc]
    refine List.take_left' ?_
    rw [List.length_take, hFl]; omega
  obtain ⟨L1, hL1⟩ : ∃ L1, L1 = (ROW.toList.take (i * 2) ++ [.string it.key, u] ++ ROW.toList.drop (i * 2 + [Value.string it.key, u].length)) := ⟨_, rfl⟩
  have hL1l : L1.length = G * 2 := by
    rw [hL1]; simp only [List.length_append, List.length_take, List.length_drop, hRs, List.length_cons, List.length_nil]; omega
  have hdl : ((flat C n).drop (i * 2)).length = (n - i) * 2 := by rw [List.length_drop, hFl, Nat.sub_mul]
  obtain ⟨L2, hL2⟩ : ∃ L2, L2 = (L1.take ((i + 1) * 2) ++ (flat C n).drop (i * 2) ++ L1.drop ((i + 1) * 2 + ((flat C n).drop (i * 2)).length)) := ⟨_, rfl⟩
  have hcpA : ∀ (W : World), W.heap[w.heap.size]? = some (.cells ROW 104 (0, 0)) → W.heap[vb]? = w.heap[vb]? → ∀ ty dc, (Builtin.copy_ #[109, 52] ty #[.slice (some ⟨w.heap.size, i * 2, none⟩) (n + 1 - i) dc, .slice (some ⟨vb, 0, none⟩) 1 1]).run Try.prog W = .ok (goInt (Nat.min 1 (n + 1 - i))) (W.setRow w.heap.size L1.toArray) := fun W hW hW2 ty dc => by
    rw [hL1]
    exact run_copy_wide W _ _ ty 104 2 w.heap.size (i * 2) (n + 1 - i) dc ⟨vb, 0, none⟩ 1 1 ROW 104 [.string it.key, u] Try.underlying109 hsz hW
      (by have : Nat.min 1 (n + 1 - i) = 1 := by simp only [Nat.min_def]; split <;> omega
          rw [this]; rfl)
      (fun j v hj => by rw [add_none, Nat.zero_add]; simp [World.cell?, hW2, hvb]; simpa using hj) (by have h : ROW.size = G * 2 := (by simpa using hRs); rw [h]; simp; omega) hone2
  have hcpB : ∀ (W : World), W.heap[w.heap.size]? = some (.cells L1.toArray 104 (0, 0)) → W.heap[g]? = w.heap[g]? → ∀ ty dc sc, (Builtin.copy_ #[109, 109] ty #[.slice (some ⟨w.heap.size, (i + 1) * 2, none⟩) (n - i) dc, .slice (some ⟨g, i * 2, none⟩) (n - i) sc]).run Try.prog W = .ok (goInt (Nat.min (n - i) (n - i))) (W.setRow w.heap.size L2.toArray) := fun W hW hW2 ty dc sc => by
    rw [hL2]
    exact run_copy_wide W _ _ ty 104 2 w.heap.size ((i + 1) * 2) (n - i) dc ⟨g, i * 2, none⟩ (n - i) sc L1.toArray 104 ((flat C n).drop (i * 2)) Try.underlying109 hsz hW
      (by rw [hdl]; congr 1; simp only [Nat.min_def]; split <;> omega)
      (fun j v hj => by rw [add_none, World.cell?_of_block (w := w) (w' := W) (a := ⟨g, i * 2 + j, none⟩) hW2]; exact hcell _ v (by rwa [List.getElem?_drop] at hj)) (by simp [hL1l, hdl]; omega) (fun v hv => hone v (List.mem_of_mem_drop hv))
  have hA1 : ((w.alloc (.cells ROW 104)).drew).heap[w.heap.size]? = some (.cells ROW 104 (0, 0)) := heap_alloc_new w _
  have hA2 : ((w.alloc (.cells ROW 104)).drew).heap[vb]? = w.heap[vb]? := heap_alloc_old w _ hvw
  have hB1 : (((w.alloc (.cells ROW 104)).drew.setRow w.heap.size L1.toArray).drew).heap[w.heap.size]? = some (.cells L1.toArray 104 (0, 0)) := setRow_heap _ _ ROW _ _ _ hA1
  have hB2 : (((w.alloc (.cells ROW 104)).drew.setRow w.heap.size L1.toArray).drew).heap[g]? = w.heap[g]? := (setRow_other _ _ g _ (by omega)).trans (heap_alloc_old w _ hgw)
  have HFin : Hid (Changed (fun b => S b ∨ S' b) (.slice (some ⟨g, 0, none⟩) its.length cap) (insAt its i it) w (.returned (.slice (some ⟨w.heap.size, 0, none⟩) (n + 1) G)) ((((w.alloc (.cells ROW 104)).drew.setRow w.heap.size L1.toArray).drew).setRow w.heap.size L2.toArray)) := by
    have hfar : ∀ b, b < w.heap.size → ((((w.alloc (.cells ROW 104)).drew.setRow w.heap.size L1.toArray).drew).setRow w.heap.size L2.toArray).heap[b]? = w.heap[b]? := fun b hb' =>
      (setRow_other _ _ b _ (by omega)).trans ((setRow_other _ _ b _ (by omega)).trans (heap_alloc_old w _ hb'))
    refine Lib.hid ⟨_, rfl, ?_, ⟨rfl, rfl, rfl, by simp [World.setRow], fun k hk _ => hfar k hk⟩⟩
    refine (Sh.Own.inserted (A := itSh) (w := w) (S := S) (S' := S') (v := .slice (some ⟨g, 0, none⟩) its.length cap) (cs := [.string it.key, u]) (C := C) (F := F) (by omega) h2 h3 h4 hit hdis ?_ ?_ (fun b hb' _ => hfar b hb')).mono fun b hb => or_assoc.2 hb
    · rw [HN.out]
      have e1 := grow_row (row := ROW.toList) (x := [.string it.key, u]) hRt hFl rfl (Nat.le_of_lt hi) hGn
      have e2 := grow_size (row := ROW.toList) (F := flat C n) (x := [.string it.key, u]) hRs hFl rfl (Nat.le_of_lt hi) hGn
      rw [← hL1, ← hL2] at e1 e2
      have hCi : ∀ j, j < n + 1 → (insF C i [.string it.key, u] j).length = 2 := fun j hj => by
        unfold insF; split
        · exact hC j (by omega)
        · split
          · rfl
          · exact hC _ (by omega)
      refine ⟨by rw [hwd, flat_len hCi], .inr ⟨w.heap.size, G, L2.toArray, rfl, Nat.zero_le _, setRow_heap _ _ _ _ _ _ hB1, hGn, by unfold maxLen; omega, by rw [hwd]; simpa using e2, ?_⟩⟩
      rw [hwd]
      show L2.take ((n + 1) * 2) = _
      rw [e1]
      exact flat_ins (fun j hj => hC j (by omega)) rfl (Nat.le_of_lt hi)
    · intro q hq
      exact .inr (by simp [Value.ownBlock] at hq; omega)
  rw [HN.out] at HFin
  clear hrow h2 h3 h4 hC hFl hone hone2 hcell hsz hL1 hL2 hdl hL1l htake hcs hit hdis hvb hn hold hROW hik hkk hRs hRt hG hi0 hz0 hs0 hb0
  have mixed : Try.prog.follows .mixedOrders = true := by kernel_rfl
  have hb1 : (0 : Int) ≤ (i : Int) + 1 := by omega
  have hGi : ¬ (G = i) := by omega
  have hGim : ¬ (G = i + 1) := by omega
  have hci : ¬ (cap = i) := by omega
  have hin : i ≤ n := by omega
  have htn : ((i : Int) + 1).toNat = i + 1 := by omega
  have hz2 : ¬ ((i : Int) = (n : Int)) := by omega
  have hz3 : (cap : Int) < (n : Int) + 1 := by omega
  have hw1 : IntKind.i64.wrap ((i : Int) + 1) = (i : Int) + 1 := by rw [IntKind.wrap_i64]; omega
  go_enter Try.func125, Try.ntmps125
  have hrA := fun ty dc => hcpA _ hA1 hA2 ty dc
  go_wp2_with (at_builtin; refine wpl_append_run _ rfl _ _ _ _ rfl _ _ rfl rfl (hrz _) ?_)
  have hrB := fun ty dc sc => hcpB _ hB1 hB2 ty dc sc
  go_region
  go_wp2
  go_ret
  exact HFin.out

/-- Wherever it goes. -/
theorem insert_any (w : World) (S S' : Nat → Prop) (v : Value) (its : List Item) (hv : itSh.Own 104 w S v its) (hl : its.length ≤ 1048576) (i : Nat) (hi : i ≤ its.length) (it : Item) (vb : Nat) (u : Value) (hit : itSh.own w S' [.string it.key, u] it)
    (hvb : w.heap[vb]? = some (.cells #[.string it.key, u] 104 (0, 0))) (hne : ¬ S vb) (hdis : ∀ b, S b → ¬ S' b) :
    Calls Try.prog 125 #[v, .int .i64 i, .slice (some ⟨vb, 0, none⟩) 1 1] w (Changed (fun b => S b ∨ S' b) v (insAt its i it) w) := by
  by_cases he : i = its.length
  · subst he; exact insert_end w S S' v its hv hl it vb u hit hvb hdis
  · rcases hv.form with ⟨-, rfl⟩ | ⟨g, cap, rfl, hS, hg, hc1, hc2⟩
    · simp at hi; exact absurd hi he
    · by_cases hr : its.length + 1 ≤ cap
      · exact insert_room w S S' g cap its hv hl i (by omega) hr it vb u hit hvb (fun e => hne (e ▸ hS)) hdis
      · exact insert_grow w S S' g cap its hv hl i (by omega) (by omega) it vb u hit hvb hdis

end Go.Proofs.Ytkamlibfcakblaa
