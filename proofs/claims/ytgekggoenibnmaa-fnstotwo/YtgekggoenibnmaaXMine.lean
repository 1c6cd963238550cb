/- Texts that follow each other, merged: Mine, ExItems, Own. -/
import Derived.Test.YtgekggoenibnmaaXExInts
import Derived.Laws.MakeOwn
import Derived.Deep.RegionHeld3
import Derived.Laws.AppendOwn
import Derived.Laws.OwnMore
import Derived.Maps.AppendAt

/- Things that the call itself has made: a row of cells, and a row of numbers for each, all in blocks of their own. -/
namespace Go.Proofs.Ytgekggoenibnmaa
open Go.RowKit

/-- Cell i of a row of things of which the first k are laid; G says where the numbers of each lie. -/
def cellOf (its : List Item) (G : Nat → Nat) (k i : Nat) : Value :=
  if i / 2 < k then
    match its[i / 2]? with
    | some it => if i % 2 = 0 then .string it.key else .slice (some ⟨G (i / 2), 0, none⟩) it.val.length it.val.length
    | none => .string ByteArray.empty
  else if i % 2 = 0 then .string ByteArray.empty else .slice none 0 0
theorem cellOf_key {its : List Item} {G : Nat → Nat} {k j : Nat} {it : Item} (hj : j < k) (hit : its[j]? = some it) : cellOf its G k (j * 2) = .string it.key := by
  have h1 : j * 2 / 2 = j := by omega
  have h2 : j * 2 % 2 = 0 := by omega
  simp [cellOf, h1, h2, hj, hit]
theorem cellOf_val {its : List Item} {G : Nat → Nat} {k j : Nat} {it : Item} (hj : j < k) (hit : its[j]? = some it) : cellOf its G k (j * 2 + 1) = .slice (some ⟨G j, 0, none⟩) it.val.length it.val.length := by
  have h1 : (j * 2 + 1) / 2 = j := by omega
  have h2 : (j * 2 + 1) % 2 = 1 := by omega
  simp [cellOf, h1, h2, hj, hit]

/-- G with another block at k. -/
def putAt (G : Nat → Nat) (k g j : Nat) : Nat := if j = k then g else G j
theorem putAt_same (G : Nat → Nat) (k g : Nat) : putAt G k g k = g := by simp [putAt]
theorem putAt_other (G : Nat → Nat) {k j : Nat} (g : Nat) (h : j ≠ k) : putAt G k g j = G j := by simp [putAt, h]
theorem cellOf_next {its : List Item} {G : Nat → Nat} {k i : Nat} (g : Nat) (h : i / 2 ≠ k) : cellOf its G k i = cellOf its (putAt G k g) (k + 1) i := by
  unfold cellOf
  rw [putAt_other G g h]
  by_cases hik : i / 2 < k
  · have hik' : i / 2 < k + 1 := by omega
    simp only [hik, hik', if_true]
  · have hik' : ¬ i / 2 < k + 1 := by omega
    simp only [hik, hik', if_false]

/-- Block g holds n things' cells, of which the first k are those of its; the numbers of each lie in a block of their own, further on. -/
def Mine (ti tn : TypeId) (w : World) (g : Nat) (its : List Item) (n k : Nat) : Prop :=
  ∃ G : Nat → Nat, w.rowIs g ti (n * 2) (cellOf its G k) ∧
    (∀ j it, j < k → its[j]? = some it → it.key.size ≤ maxLen ∧ it.val.length ≤ maxLen ∧ g < G j ∧ w.rowIs (G j) tn it.val.length fun i => .int .i64 (nth it.val i)) ∧ ∀ i j, i < j → j < k → G i < G j

section
variable {ti tn : TypeId} {w w' : World} {g : Nat} {its : List Item} {n k : Nat}
theorem Mine.lt (h : Mine ti tn w g its n k) : g < w.heap.size := by
  obtain ⟨G, h1, _⟩ := h
  exact h1.lt
theorem Mine.kept (h : Mine ti tn w g its n k) (hk : ∀ b, g ≤ b → b < w.heap.size → w'.heap[b]? = w.heap[b]?) : Mine ti tn w' g its n k := by
  obtain ⟨G, h1, h2, h3⟩ := h
  refine ⟨G, h1.of_block (hk g (Nat.le_refl _) h1.lt), fun j it hj hit => ?_, h3⟩
  obtain ⟨a, b, c, d⟩ := h2 j it hj hit
  exact ⟨a, b, c, d.of_block (hk _ (Nat.le_of_lt c) d.lt)⟩
theorem Mine.below (h : Mine ti tn w g its n k) (hb : Below w.heap.size w w') : Mine ti tn w' g its n k := h.kept fun b _ hlt => hb.block b hlt
theorem Mine.step {it : Item} {g' : Nat} (h : Mine ti tn w g its n k) (hb : Below w.heap.size w w') (hg : w.heap.size ≤ g') (hr : w'.rowIs g' tn it.val.length fun i => .int .i64 (nth it.val i)) (hit : its[k]? = some it)
    (hs : it.key.size ≤ maxLen) (hl : it.val.length ≤ maxLen) :
    Mine ti tn ((w'.setCell ⟨g, k * 2, none⟩ (.string it.key)).setCell ⟨g, k * 2 + 1, none⟩ (.slice (some ⟨g', 0, none⟩) it.val.length it.val.length)) g its n (k + 1) := by
  have hlt := h.lt
  obtain ⟨G, h1, h2, h3⟩ := h
  have hG : ∀ j, j < k → ∀ it, its[j]? = some it → G j < w.heap.size := fun j hj it hit => (h2 j it hj hit).2.2.2.lt
  refine ⟨putAt G k g', ?_, fun j it' hj hit' => ?_, fun i j hij hj => ?_⟩
  · refine (((h1.of_block (hb.block g hlt)).set (k * 2) _).set (k * 2 + 1) _).congr fun i hi => ?_
    by_cases e1 : i = k * 2 + 1
    · subst e1
      rw [if_pos rfl, cellOf_val (Nat.lt_succ_self k) hit, putAt_same]
    · rw [if_neg e1]
      by_cases e2 : i = k * 2
      · subst e2
        rw [if_pos rfl, cellOf_key (Nat.lt_succ_self k) hit]
      · rw [if_neg e2]
        exact cellOf_next g' (by omega)
  · by_cases e : j = k
    · subst e
      rw [hit] at hit'
      injection hit' with hit'
      subst hit'
      rw [putAt_same]
      exact ⟨hs, hl, by omega, (hr.setOther (by simp; omega) _).setOther (by simp; omega) _⟩
    · rw [putAt_other G g' e]
      obtain ⟨a, b, c, d⟩ := h2 j it' (by omega) hit'
      exact ⟨a, b, c, ((d.of_block (hb.block _ d.lt)).setOther (by simp; omega) _).setOther (by simp; omega) _⟩
  · rw [putAt_other G g' (by omega : i ≠ k)]
    by_cases e : j = k
    · subst e
      rw [putAt_same]
      have hk' : j < its.length := (List.getElem?_eq_some_iff.1 hit).1
      exact Nat.lt_of_lt_of_le (hG i (by omega) _ (List.getElem?_eq_getElem (by omega))) hg
    · rw [putAt_other G g' e]; exact h3 i j hij (by omega)
theorem Mine.items (h : Mine ti tn w g its its.length its.length) (hl : its.length ≤ maxLen) : Items w w.heap.size (.slice (some ⟨g, 0, none⟩) its.length its.length) its := by
  have hlt := h.lt
  obtain ⟨G, h1, h2, h3⟩ := h
  refine ⟨_, _, rfl, Nat.le_refl _, hl, fun hn => ⟨g, 0, rfl, hlt, fun j it hit => ?_⟩⟩
  have hj : j < its.length := (List.getElem?_eq_some_iff.1 hit).1
  obtain ⟨a, b, c, d⟩ := h2 j it hj hit
  refine ⟨a, ?_, _, ?_, Ints.ofRow d b⟩
  · rw [Nat.zero_add, h1.cell (by omega), cellOf_key hj hit]
  · rw [Nat.zero_add, h1.cell (by omega), cellOf_val hj hit]
end

/-- make, of elements of two cells. -/
theorem made_two {P : Program} (t e : TypeId) (z0 z1 : Value) (bytes : Nat) (ht : P.underlying t = some (.slice e)) (hinfo : (P.info? e).map (fun i => (i.zero, i.size, i.bytes)) = some (some (.agg #[z0, z1]), 2, bytes))
    (n : Nat) (hbytes : bytes * n ≤ 281474976710656) (h63 : n ≤ 9223372036854775807) (w : World) :
    (Instr.makeSlice t (.int .i64 (n : Int)) (.int .i64 (n : Int))).run P w = .ok (.slice (some ⟨w.heap.size, 0, none⟩) n n) (w.alloc (.cells (madeCells #[z0, z1] (n * 2)) e)) := by
  obtain ⟨i, hi, hzz⟩ := Option.map_eq_some_iff.1 hinfo
  simp only [Prod.mk.injEq] at hzz
  obtain ⟨hz, hs, hb⟩ := hzz
  have hb' : (i.bytes : Int) * (n : Int) ≤ 281474976710656 := by
    have h : ((i.bytes * n : Nat) : Int) ≤ 281474976710656 := by rw [hb]; omega
    rwa [Int.natCast_mul] at h
  have hr := run_make (P := P) w t e i _ ht hi hz .i64 .i64 n n (by omega) (Int.le_refl _) hb' (by omega)
  simp only [Int.toNat_natCast, hs] at hr
  exact hr
theorem Mine.start (w : World) (ti tn : TypeId) (its : List Item) (n : Nat) : Mine ti tn (w.alloc (.cells (madeCells #[.string ByteArray.empty, .slice none 0 0] (n * 2)) ti)) w.heap.size its n 0 := by
  refine ⟨fun _ => 0, ?_, fun j _ h => absurd h (by omega), fun i j _ h => absurd h (by omega)⟩
  refine ⟨_, Go.Deep.blk_alloc_new _ _, size_madeCells _ _, fun i hi => ?_⟩
  simp only [madeCells, cellOf]
  rw [if_neg (by omega)]
  have h2 : i % 2 = 0 ∨ i % 2 = 1 := by omega
  rcases h2 with h | h <;> simp [hi, h]

end Go.Proofs.Ytgekggoenibnmaa

/- The helpers of the exact laws over things and stores: a count, a copy, a comparison. -/
namespace Go.Proofs.Ytgekggoenibnmaa
open Go.RowKit

/-- What is left behind n and then m more; -1 where that is less than none. -/
def lessTwo (left n m : Int) : Int := if left < n then -1 else less (left - n) m
theorem lessTwo_no {left n m : Int} (h : left < n) : lessTwo left n m = -1 := by unfold lessTwo; rw [if_pos h]
theorem lessTwo_yes {left n m : Int} (h : n ≤ left) : lessTwo left n m = less (left - n) m := by unfold lessTwo; rw [if_neg (by omega)]
theorem lessTwo_bound {left n m : Int} (hn : 0 ≤ n) (hm : 0 ≤ m) (h : 0 ≤ lessTwo left n m) : n ≤ left ∧ m ≤ left ∧ lessTwo left n m ≤ left := by
  unfold lessTwo less at *
  split at h
  · omega
  · split at h
    · omega
    · rename_i h1 h2
      rw [if_neg h1, if_neg h2]; omega
theorem lessTwo_low {left n m : Int} (hn : 0 ≤ n) (hm : 0 ≤ m) (hl : 0 ≤ left) : -1 ≤ lessTwo left n m ∧ lessTwo left n m ≤ left := by
  unfold lessTwo less
  split
  · omega
  · split <;> omega

theorem szStoItem_any (w : World) (key : ByteArray) (v : Value) (xs : List Int) (hk : key.size ≤ maxLen) (hv : Ints w w.heap.size v xs) (left : Int) (h0 : 0 ≤ left) (h1 : left ≤ 1048576) :
    Calls Try.prog 100 #[.agg #[.string key, v], .int .i64 left] w fun e w' =>
      e = .returned (.int .i64 (lessTwo left key.size xs.length)) ∧ Below w.heap.size w w' := by
  obtain ⟨A, c, rfl, hc2, hc1⟩ := hv.form
  have HV := Lib.hid fun o => hv.alloc (Nat.le_refl _) o
  clear hv
  unfold maxLen at hc2 hk
  by_cases h : left < (key.size : Int)
  · go_enter Try.func100, Try.ntmps100
    go_wp2
    go_ret
    exact ⟨ret_int (by rw [lessTwo_no h]), belowOne _ _⟩
  · have h2 : (key.size : Int) ≤ left := by omega
    clear h
    by_cases h3 : left - (key.size : Int) < (xs.length : Int)
    · have hl := less_no h3
      clear h3
      go_enter Try.func100, Try.ntmps100
      go_wp2_with (go_at_call 101; refine (szIntS_any _ _ _ _ (HV.out _) _ (by omega) (by omega)).mono ?_; rintro e w' ⟨rfl, rfl⟩)
      go_ret
      exact ⟨ret_int (by rw [lessTwo_yes h2, hl]), belowOne _ _⟩
    · have hl := less_yes (left := left - (key.size : Int)) (n := (xs.length : Int)) (by omega)
      have hx : (xs.length : Int) ≤ left - (key.size : Int) := by omega
      clear h3
      go_enter Try.func100, Try.ntmps100
      go_wp2_with (go_at_call 101; refine (szIntS_any _ _ _ _ (HV.out _) _ (by omega) (by omega)).mono ?_; rintro e w' ⟨rfl, rfl⟩)
      go_ret
      exact ⟨ret_int (by rw [lessTwo_yes h2, hl]), belowOne _ _⟩

/-- Of the first k things none is long. -/
def Short (its : List Item) (k : Nat) : Prop := ∀ j it, j < k → its[j]? = some it → it.key.size ≤ 1048576 ∧ it.val.length ≤ 1048576
theorem Short.start (its : List Item) : Short its 0 := fun j _ h => absurd h (by omega)
theorem Short.step {its : List Item} {k : Nat} {it : Item} (h : Short its k) (hk : its[k]? = some it) (h1 : it.key.size ≤ 1048576) (h2 : it.val.length ≤ 1048576) : Short its (k + 1) := by
  intro j x hj hx
  rcases Nat.lt_or_ge j k with hlt | hge
  · exact h j x hlt hx
  · have : j = k := by omega
    subst this
    rw [hk] at hx
    injection hx with hx
    rw [← hx]; exact ⟨h1, h2⟩
/-- What a count of things says: a number from -1 to what was left; where it is not below 0 they are few, and short. -/
def Counted (left : Int) (its : List Item) (w : World) (e : Ending) (w' : World) : Prop :=
  ∃ r : Int, e = .returned (.int .i64 r) ∧ -1 ≤ r ∧ r ≤ left ∧ (0 ≤ r → its.length ≤ 1048576 ∧ Short its its.length) ∧ Below w.heap.size w w'

theorem szStoItemS_any (w : World) (v : Value) (its : List Item) (hv : Items w w.heap.size v its) (left : Int) (h0 : 0 ≤ left) (h1 : left ≤ 1048576) :
    Calls Try.prog 52 #[v, .int .i64 left] w (Counted left its w) := by
  obtain ⟨A, c, rfl, hc2, hc1⟩ := hv.form
  unfold maxLen at hc2
  by_cases h : left < (its.length : Int)
  · clear hv
    go_enter Try.func52, Try.ntmps52
    go_wp2
    go_ret
    exact ⟨-1, rfl, by omega, by omega, fun h => absurd h (by omega), Below.refl _ _⟩
  · have h2 : (its.length : Int) ≤ left := by omega
    clear h
    go_enter Try.func52, Try.ntmps52
    go_wp2
    go_loopw [1, 5] (fun l i wr => ∃ (k : Nat) (r : Int), k ≤ its.length ∧ i = .int .i64 k ∧ l = .int .i64 r ∧ 0 ≤ r ∧ r ≤ left ∧ Short its k ∧ Below w.heap.size w wr) (fun _ i _ => its.length - (intOf i).toNat)
    case atStart => exact ⟨0, _, Nat.zero_le _, rfl, rfl, by omega, by omega, Short.start its, Below.refl _ _⟩
    case round =>
      obtain ⟨k, r, hk, rfl, rfl, hr0, hr1, hs, hb⟩ := hrel
      by_cases hlt : k < its.length
      · obtain ⟨b, off, c', it, u, e1, hit, hB, hks, ck, cu, hu⟩ := (hv.below hb).at_ (k := k) hlt
        obtain ⟨A', c'', hu', _, _⟩ := hu.form
        subst hu'
        injection e1 with e1a e1b e1c
        subst e1a
        clear e1b e1c hv
        have HI := Lib.hid hit
        have HU := Lib.hid (hu.more hb.size)
        have HB := Lib.hid hb
        clear hit hu hb
        have hlo := lessTwo_low (left := r) (n := (it.key.size : Int)) (m := (it.val.length : Int)) (by omega) (by omega) hr0
        by_cases hneg : lessTwo r (it.key.size : Int) (it.val.length : Int) < 0
        · go_wp2_with (go_at_call 100; refine (szStoItem_any _ _ _ _ hks HU.out _ hr0 (by omega)).mono ?_; rintro e w1 ⟨rfl, hb1⟩)
          go_ret
          exact ⟨-1, rfl, by omega, by omega, fun h => absurd h (by omega), belowNext HB.out (by assumption)⟩
        · have hge : 0 ≤ lessTwo r (it.key.size : Int) (it.val.length : Int) := by omega
          have hbd := lessTwo_bound (by omega) (by omega) hge
          have HS := Lib.hid (hs.step HI.out (by omega) (by omega))
          clear hneg
          go_wp2_with (go_at_call 100; refine (szStoItem_any _ _ _ _ hks HU.out _ hr0 (by omega)).mono ?_; rintro e w1 ⟨rfl, hb1⟩)
          go_roundw
          case rel => exact ⟨k + 1, _, by omega, by go_num, rfl, by omega, by omega, HS.out, belowNext HB.out (by assumption)⟩
          case measure => simp [intOf]; omega
      · have hks : k = its.length := by omega
        have HS := Lib.hid (hks ▸ hs)
        clear hks
        go_wp2
        go_ret
        exact ⟨r, rfl, by omega, hr1, fun _ => ⟨by omega, HS.out⟩, hb⟩

theorem szStoStore_any (w : World) (v : Value) (its : List Item) (hv : Items w w.heap.size v its) (left : Int) (h0 : 0 ≤ left) (h1 : left ≤ 1048576) :
    Calls Try.prog 22 #[.agg #[v], .int .i64 left] w (Counted left its w) := by
  obtain ⟨A, c, rfl, hc2, hc1⟩ := hv.form
  have HV := Lib.hid fun o => (hv.alloc (Nat.le_refl _) o).more (B' := (w.alloc o).heap.size) (by simp)
  clear hv
  go_enter Try.func22, Try.ntmps22
  go_wp2_with fail
  refine (szStoItemS_any _ _ _ (HV.out _) _ h0 h1).mono ?_
  rintro e w1 ⟨r, rfl, hr0, hr1, hr2, hb1⟩
  have HR := Lib.hid hr2
  have HB := Lib.hid (belowNext (belowOne _ _) hb1)
  clear hr2 hb1 HV
  by_cases hneg : r < 0
  · go_wp2
    go_ret
    exact ⟨-1, rfl, by omega, by omega, fun h => absurd h (by omega), HB.out⟩
  · go_wp2
    go_ret
    exact ⟨r, rfl, by omega, by omega, HR.out, HB.out⟩

end Go.Proofs.Ytgekggoenibnmaa

/- Slices of integers that the call itself has made, by append. -/
namespace Go.Proofs.Ytgekggoenibnmaa
open Go.RowKit

/-- A slice of integers in a block of the call's own, from block lo on. -/
def OwnInts (w : World) (lo : Nat) (v : Value) (xs : List Int) : Prop := w.ownsRow lo 3 1 v xs.length (xs.map (Value.int .i64))

theorem nth_map {xs : List Int} {j : Nat} (h : j < xs.length) : (xs.map (Value.int .i64))[j]? = some (.int .i64 (nth xs j)) := by
  rw [List.getElem?_map, List.getElem?_eq_getElem h, nth_get h]; rfl
theorem OwnInts.ints {w : World} {lo : Nat} {v : Value} {xs : List Int} (h : OwnInts w lo v xs) : Ints w w.heap.size v xs := by
  rcases h.2 with ⟨rfl, h0⟩ | ⟨g, cap, cur, rfl, hb, hg, hn, hm, hs, ht⟩
  · exact ⟨none, 0, by rw [h0], by omega, Nat.zero_le _, fun hp => absurd hp (by omega)⟩
  · refine ⟨_, cap, rfl, hn, hm, fun _ => ⟨g, 0, rfl, (Array.getElem?_eq_some_iff.1 hg).1, fun j hj => ?_⟩⟩
    have := World.ownsRow.cellAt h j (by omega)
    rw [Nat.zero_add, this, nth_map hj]
theorem OwnInts.below {w w' : World} {lo : Nat} {v : Value} {xs : List Int} (h : OwnInts w lo v xs) (hb : Below w.heap.size w w') : OwnInts w' lo v xs :=
  h.kept (row := none) ⟨hb.os, hb.tape, hb.output, hb.size, fun k hk _ => hb.block k hk⟩ (by cases hv : v.ownBlock <;> simp)

set_option maxRecDepth 100000 in
/-- append of a slice of integers to one of the call's own. -/
theorem append_ints (w : World) (lo : Nat) (v : Value) (xs : List Int) (hv : OwnInts w lo v xs) (B : Nat) (A : Option Addr) (c : Nat) (ys : List Int) (hy : Ints w B (.slice A ys.length c) ys) (ty : TypeId)
    (hl : xs.length + ys.length ≤ 4194304) (hlo : lo ≤ w.heap.size) :
    ∃ v' w', (Builtin.append_ #[55, 55] ty #[v, .slice A ys.length c]).run Try.prog w = .ok v' w' ∧ OwnInts w' lo v' (xs ++ ys) ∧ w.grownBy w' v.ownBlock := by
  obtain ⟨i, hi, hz, hs, hb⟩ := info_parts infoInt
  obtain ⟨A', c', e, hc1, hc2, hrow⟩ := hy
  injection e with eA _ ec
  subst eA ec
  cases A with
  | none =>
    have h0 : ys = [] := by
      cases ys with
      | nil => rfl
      | cons y l =>
        obtain ⟨_, _, h, _⟩ := hrow (by simp)
        cases h
    subst h0
    refine ⟨v, w, ?_, by simpa [OwnInts] using hv, World.grownBy.refl _ _⟩
    rcases hv.2 with ⟨rfl, h0⟩ | ⟨g, cap, cur, rfl, _, _, hnc, _⟩
    · simp [Builtin.append_, run_underlying Try.underlying55, sizeOf, typeInfo, hi, Builtin.lenOf, Builtin.firstCells]
    · simp [Builtin.append_, run_underlying Try.underlying55, sizeOf, typeInfo, hi, Builtin.lenOf, Builtin.firstCells, hnc, storeCells]
  | some ad =>
    have hcells : ∀ j u, (ys.map (Value.int .i64))[j]? = some u → w.cell? (ad.add j) = some u := by
      intro j u hu
      have hj : j < ys.length := by
        have := (List.getElem?_eq_some_iff.1 hu).1
        simpa using this
      obtain ⟨b, off, e, _, hc⟩ := hrow (by omega)
      injection e with e
      subst e
      rw [nth_map hj] at hu
      rw [← hu, ← hc j hj]
      congr 1
      unfold Addr.add
      by_cases h : j = 0 <;> simp [h]
    obtain ⟨v', w', h1, h2, h3, _⟩ := run_append_own (P := Try.prog) w lo 55 ty 3 i (.int .i64 0) 1 8 Try.underlying55 hi hz hs hb rfl (by omega) v xs.length _ hv ad ys.length c (ys.map (Value.int .i64)) (by simp) hcells
      (by intro u hu; obtain ⟨n, _, rfl⟩ := List.mem_map.1 hu; rfl) (by unfold maxLen; omega) (by omega) hlo
    exact ⟨v', w', h1, by simpa [OwnInts] using h2, h3⟩

/-- The same, for the walk. -/
theorem wpl_append_ints {w : World} {ops : Array Oper} {rest : List Oper} {o : Oper} {a : Act} {Q : Exit → Act → World → Prop} (hgd : o.guard = none) (s x : Operand)
    (ho : o.op = .call { callee := .builtin .append, args := #[s, x], argTypes := #[55, 55] }) (lo : Nat) (v : Value) (xs : List Int) (hs : a.eval s = v) (hv : OwnInts w lo v xs)
    (B : Nat) (A : Option Addr) (c : Nat) (ys : List Int) (hx : a.eval x = .slice A ys.length c) (hy : Ints w B (.slice A ys.length c) ys) (hl : xs.length + ys.length ≤ 4194304) (hlo : lo ≤ w.heap.size)
    (h : ∀ v' w', OwnInts w' lo v' (xs ++ ys) → w.grownBy w' v.ownBlock → wpList Try.prog ops Q rest (a.put o.dst v') w') : wpList Try.prog ops Q (o :: rest) a w := by
  refine wpList_plain hgd fun K hK => ?_
  obtain ⟨v', w', hr, h2, h3⟩ := append_ints w lo v xs hv B A c ys hy o.type hl hlo
  unfold Oper.wp execOp
  simp only [ho, resolve, invoke, builtin, Sem.run_bind, Sem.run_pure, Result.andThen_ok, List.map_toArray, List.map_cons, List.map_nil, hs, hx, hr]
  exact hK _ _ (h v' w' h2 h3)

theorem OwnInts.empty (w : World) (lo : Nat) (hlo : lo ≤ w.heap.size) : OwnInts (w.alloc (.cells #[] 3)) lo (.slice (some ⟨w.heap.size, 0, none⟩) 0 0) [] :=
  World.ownsRow_made w #[] 0 hlo (Nat.zero_le _) (by simp)

set_option maxRecDepth 100000 in
theorem clone_any (w : World) (v : Value) (xs : List Int) (hv : Ints w w.heap.size v xs) (hl : xs.length ≤ 1048576) :
    Calls Try.prog 62 #[v] w fun e w' => ∃ u, e = .returned u ∧ OwnInts w' w.heap.size u xs ∧ Below w.heap.size w w' := by
  obtain ⟨A, c, rfl, hc2, hc1⟩ := hv.form
  have HV := Lib.hid hv
  clear hv
  have hq := fun W => Lib.run_eql_slice_nil (P := Try.prog) W 55 3 A xs.length c 0 0 Try.underlying55
  cases A with
  | none =>
    have hx : xs = [] := by
      obtain ⟨A', c', e, _, _, hrow⟩ := HV.out
      injection e with eA _ _
      subst eA
      cases xs with
      | nil => rfl
      | cons y l =>
        obtain ⟨_, _, h, _⟩ := hrow (by simp)
        cases h
    have HX := Lib.hid hx
    clear hx
    go_enter Try.func62, Try.ntmps62
    go_wp2
    go_ret
    exact ⟨_, rfl, by rw [HX.out]; exact World.ownsRow_nil _ _ _ _, Below.refl _ _⟩
  | some ad =>
    go_enter Try.func62, Try.ntmps62
    go_wp2_with (at_builtin; refine wpl_append_ints rfl _ _ rfl w.heap.size _ [] rfl (OwnInts.empty w w.heap.size (Nat.le_refl _)) w.heap.size _ _ xs rfl (HV.out.alloc (Nat.le_refl _) _) (by simp; omega) (by simp) ?_; intro u w1 hown hg; have HO := Lib.hid hown; have HG := Lib.hid hg; clear hown hg)
    go_ret
    exact ⟨_, rfl, HO.out, (belowOne _ _).grown HG.out (by simp) (fun k hk => Nat.le_of_eq (Option.some.inj hk))⟩

end Go.Proofs.Ytgekggoenibnmaa
