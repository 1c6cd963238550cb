/- Texts that follow each other, merged: ExItems, Own, Mark, Wrt, Wr, Shapes. -/
import Derived.Test.YtkamlibfcakblaaXVal
import Derived.Deep.RegionHeld3
import Derived.Laws.AppendOwn
import Derived.Laws.OwnMore
import Derived.Maps.AppendAt
import Derived.Laws.BytesArg
import Derived.Test.YtkamlibfcakblaaXShOwn

/- The helpers of the exact laws over things and stores: a count, a copy, a comparison. -/
namespace Go.Proofs.Ytkamlibfcakblaa
open Go.RowKit

/-- What is left behind n and then m more; -1 where that is less than none. -/
def lessTwo (left n m : Int) : Int := if left < n then -1 else less (left - n) m
theorem lessTwo_no {left n m : Int} (h : left < n) : lessTwo left n m = -1 := by unfold lessTwo; rw [if_pos h]
theorem lessTwo_yes {left n m : Int} (h : n ≤ left) : lessTwo left n m = less (left - n) m := by unfold lessTwo; rw [if_neg (by omega)]
theorem lessTwo_bound {left n m : Int} (hn : 0 ≤ n) (hm : 0 ≤ m) (h : 0 ≤ lessTwo left n m) : n ≤ left ∧ m ≤ left ∧ lessTwo left n m ≤ left := by
  unfold lessTwo less at *
  split at h
  · omega
  · split at h
    · omega
    · rename_i h1 h2
      rw [if_neg h1, if_neg h2]; omega
theorem lessTwo_low {left n m : Int} (hn : 0 ≤ n) (hm : 0 ≤ m) (hl : 0 ≤ left) : -1 ≤ lessTwo left n m ∧ lessTwo left n m ≤ left := by
  unfold lessTwo less
  split
  · omega
  · split <;> omega

/-- Of the first k things none is long. -/
def Short (its : List Item) (k : Nat) : Prop := ∀ j it, j < k → its[j]? = some it → it.key.size ≤ 1048576 ∧ it.val.length ≤ 1048576
theorem Short.start (its : List Item) : Short its 0 := fun j _ h => absurd h (by omega)
theorem Short.step {its : List Item} {k : Nat} {it : Item} (h : Short its k) (hk : its[k]? = some it) (h1 : it.key.size ≤ 1048576) (h2 : it.val.length ≤ 1048576) : Short its (k + 1) := by
  intro j x hj hx
  rcases Nat.lt_or_ge j k with hlt | hge
  · exact h j x hlt hx
  · have : j = k := by omega
    subst this
    rw [hk] at hx
    injection hx with hx
    rw [← hx]; exact ⟨h1, h2⟩
/-- What a count of things says: a number from -1 to what was left; where it is not below 0 they are few, and short. -/
def Counted (left : Int) (its : List Item) (w : World) (e : Ending) (w' : World) : Prop :=
  ∃ r : Int, e = .returned (.int .i64 r) ∧ -1 ≤ r ∧ r ≤ left ∧ (0 ≤ r → its.length ≤ 1048576 ∧ Short its its.length) ∧ Below w.heap.size w w'

end Go.Proofs.Ytkamlibfcakblaa

/- Slices of integers that the call itself has made, by append. -/
namespace Go.Proofs.Ytkamlibfcakblaa
open Go.RowKit

/-- A slice of integers in a block of the call's own, from block lo on. -/
def OwnInts (w : World) (lo : Nat) (v : Value) (xs : List Int) : Prop := w.ownsRow lo 3 1 v xs.length (xs.map (Value.int .i64))

theorem nth_map {xs : List Int} {j : Nat} (h : j < xs.length) : (xs.map (Value.int .i64))[j]? = some (.int .i64 (nth xs j)) := by
  rw [List.getElem?_map, List.getElem?_eq_getElem h, nth_get h]; rfl
theorem OwnInts.ints {w : World} {lo : Nat} {v : Value} {xs : List Int} (h : OwnInts w lo v xs) : Ints w w.heap.size v xs := by
  rcases h.2 with ⟨rfl, h0⟩ | ⟨g, cap, cur, rfl, hb, hg, hn, hm, hs, ht⟩
  · exact ⟨none, 0, by rw [h0], by omega, Nat.zero_le _, fun hp => absurd hp (by omega)⟩
  · refine ⟨_, cap, rfl, hn, hm, fun _ => ⟨g, 0, rfl, (Array.getElem?_eq_some_iff.1 hg).1, fun j hj => ?_⟩⟩
    have := World.ownsRow.cellAt h j (by omega)
    rw [Nat.zero_add, this, nth_map hj]
theorem OwnInts.below {w w' : World} {lo : Nat} {v : Value} {xs : List Int} (h : OwnInts w lo v xs) (hb : Below w.heap.size w w') : OwnInts w' lo v xs :=
  h.kept (row := none) ⟨hb.os, hb.tape, hb.output, hb.size, fun k hk _ => hb.block k hk⟩ (by cases hv : v.ownBlock <;> simp)

set_option maxRecDepth 100000 in
/-- append of a slice of integers to one of the call's own. -/
theorem append_ints (w : World) (lo : Nat) (v : Value) (xs : List Int) (hv : OwnInts w lo v xs) (B : Nat) (A : Option Addr) (c : Nat) (ys : List Int) (hy : Ints w B (.slice A ys.length c) ys) (ty : TypeId)
    (hl : xs.length + ys.length ≤ 4194304) (hlo : lo ≤ w.heap.size) :
    ∃ v' w', (Builtin.append_ #[39, 39] ty #[v, .slice A ys.length c]).run Try.prog w = .ok v' w' ∧ OwnInts w' lo v' (xs ++ ys) ∧ w.grownBy w' v.ownBlock := by
  obtain ⟨i, hi, hz, hs, hb⟩ := info_parts infoInt
  obtain ⟨A', c', e, hc1, hc2, hrow⟩ := hy
  injection e with eA _ ec
  subst eA ec
  cases A with
  | none =>
    have h0 : ys = [] := by
      cases ys with
      | nil => rfl
      | cons y l =>
        obtain ⟨_, _, h, _⟩ := hrow (by simp)
        cases h
    subst h0
    refine ⟨v, w, ?_, by simpa [OwnInts] using hv, World.grownBy.refl _ _⟩
    rcases hv.2 with ⟨rfl, h0⟩ | ⟨g, cap, cur, rfl, _, _, hnc, _⟩
    · simp [Builtin.append_, run_underlying Try.underlying39, sizeOf, typeInfo, hi, Builtin.lenOf, Builtin.firstCells]
    · simp [Builtin.append_, run_underlying Try.underlying39, sizeOf, typeInfo, hi, Builtin.lenOf, Builtin.firstCells, hnc, storeCells]
  | some ad =>
    have hcells : ∀ j u, (ys.map (Value.int .i64))[j]? = some u → w.cell? (ad.add j) = some u := by
      intro j u hu
      have hj : j < ys.length := by
        have := (List.getElem?_eq_some_iff.1 hu).1
        simpa using this
      obtain ⟨b, off, e, _, hc⟩ := hrow (by omega)
      injection e with e
      subst e
      rw [nth_map hj] at hu
      rw [← hu, ← hc j hj]
      congr 1
      unfold Addr.add
      by_cases h : j = 0 <;> simp [h]
    obtain ⟨v', w', h1, h2, h3, _⟩ := run_append_own (P := Try.prog) w lo 39 ty 3 i (.int .i64 0) 1 8 Try.underlying39 hi hz hs hb rfl (by omega) v xs.length _ hv ad ys.length c (ys.map (Value.int .i64)) (by simp) hcells
      (by intro u hu; obtain ⟨n, _, rfl⟩ := List.mem_map.1 hu; rfl) (by unfold maxLen; omega) (by omega) hlo
    exact ⟨v', w', h1, by simpa [OwnInts] using h2, h3⟩

/-- The same, for the walk. -/
theorem wpl_append_ints {w : World} {ops : Array Oper} {rest : List Oper} {o : Oper} {a : Act} {Q : Exit → Act → World → Prop} (hgd : o.guard = none) (s x : Operand)
    (ho : o.op = .call { callee := .builtin .append, args := #[s, x], argTypes := #[39, 39] }) (lo : Nat) (v : Value) (xs : List Int) (hs : a.eval s = v) (hv : OwnInts w lo v xs)
    (B : Nat) (A : Option Addr) (c : Nat) (ys : List Int) (hx : a.eval x = .slice A ys.length c) (hy : Ints w B (.slice A ys.length c) ys) (hl : xs.length + ys.length ≤ 4194304) (hlo : lo ≤ w.heap.size)
    (h : ∀ v' w', OwnInts w' lo v' (xs ++ ys) → w.grownBy w' v.ownBlock → wpList Try.prog ops Q rest (a.put o.dst v') w') : wpList Try.prog ops Q (o :: rest) a w := by
  refine wpList_plain hgd fun K hK => ?_
  obtain ⟨v', w', hr, h2, h3⟩ := append_ints w lo v xs hv B A c ys hy o.type hl hlo
  unfold Oper.wp execOp
  simp only [ho, resolve, invoke, builtin, Sem.run_bind, Sem.run_pure, Result.andThen_ok, List.map_toArray, List.map_cons, List.map_nil, hs, hx, hr]
  exact hK _ _ (h v' w' h2 h3)

theorem OwnInts.empty (w : World) (lo : Nat) (hlo : lo ≤ w.heap.size) : OwnInts (w.alloc (.cells #[] 3)) lo (.slice (some ⟨w.heap.size, 0, none⟩) 0 0) [] :=
  World.ownsRow_made w #[] 0 hlo (Nat.zero_le _) (by simp)

set_option maxRecDepth 100000 in
theorem clone_any (w : World) (v : Value) (xs : List Int) (hv : Ints w w.heap.size v xs) (hl : xs.length ≤ 1048576) :
    Calls Try.prog 92 #[v] w fun e w' => ∃ u, e = .returned u ∧ OwnInts w' w.heap.size u xs ∧ Below w.heap.size w w' := by
  obtain ⟨A, c, rfl, hc2, hc1⟩ := hv.form
  have HV := Lib.hid hv
  clear hv
  have hq := fun W => Lib.run_eql_slice_nil (P := Try.prog) W 39 3 A xs.length c 0 0 Try.underlying39
  cases A with
  | none =>
    have hx : xs = [] := by
      obtain ⟨A', c', e, _, _, hrow⟩ := HV.out
      injection e with eA _ _
      subst eA
      cases xs with
      | nil => rfl
      | cons y l =>
        obtain ⟨_, _, h, _⟩ := hrow (by simp)
        cases h
    have HX := Lib.hid hx
    clear hx
    go_enter Try.func92, Try.ntmps92
    go_wp2
    go_ret
    exact ⟨_, rfl, by rw [HX.out]; exact World.ownsRow_nil _ _ _ _, Below.refl _ _⟩
  | some ad =>
    go_enter Try.func92, Try.ntmps92
    go_wp2_with (at_builtin; refine wpl_append_ints rfl _ _ rfl w.heap.size _ [] rfl (OwnInts.empty w w.heap.size (Nat.le_refl _)) w.heap.size _ _ xs rfl (HV.out.alloc (Nat.le_refl _) _) (by simp; omega) (by simp) ?_; intro u w1 hown hg; have HO := Lib.hid hown; have HG := Lib.hid hg; clear hown hg)
    go_ret
    exact ⟨_, rfl, HO.out, (belowOne _ _).grown HG.out (by simp) (fun k hk => Nat.le_of_eq (Option.some.inj hk))⟩

end Go.Proofs.Ytkamlibfcakblaa

/- Marks: a text of a number; numbers laid one behind the other; and whether they are held. -/
namespace Go.Proofs.Ytkamlibfcakblaa
open Go.RowKit

/-- One digit. -/
def digT (n : Int) : ByteArray := strOfNums [48 + n]
theorem digT_size (n : Int) : (digT n).size = 1 := strOfNums_size _
/-- The digits of a number, ahead of a text. -/
def decs (k : Int) (s : ByteArray) : ByteArray := if _h : 0 < k then decs (k / 10) (digT (k % 10) ++ s) else s
  termination_by k.toNat
  decreasing_by omega
theorem decs_step {k : Int} (s : ByteArray) (h : 0 < k) : decs (k / 10) (digT (k % 10) ++ s) = decs k s := by
  rw [decs.eq_def k s, dif_pos h]
theorem decs_end {k : Int} (s : ByteArray) (h : k ≤ 0) : decs k s = s := by
  rw [decs.eq_def, dif_neg (by omega)]
/-- The text of a mark. -/
def markS (k : Int) : ByteArray := ⟨#[109]⟩ ++ decs k ⟨#[]⟩

set_option maxRecDepth 100000 in
theorem markText_any (w : World) (k : Int) (h0 : 1 ≤ k) (h1 : k ≤ 1000000000000000) :
    Calls Try.prog 97 #[.int .i64 k] w fun e w' => e = .returned (.string (markS k)) ∧ Below w.heap.size w w' := by
  have hk0 : ¬ k ≤ 0 := by omega
  go_enter Try.func97, Try.ntmps97
  go_wp2
  go_loopw [0, 3] (fun i o wr => ∃ (m : Int) (s : ByteArray), i = .int .i64 m ∧ o = .string s ∧ 0 ≤ m ∧ m ≤ 1000000000000000 ∧ (s.size : Int) ≤ 1000000000000000 - m ∧ decs m s = decs k ⟨#[]⟩ ∧ Below w.heap.size w wr) (fun i _ _ => (intOf i).toNat)
  case atStart => exact ⟨k, _, rfl, rfl, by omega, h1, by show ((0 : Nat) : Int) ≤ _; omega, rfl, Below.refl _ _⟩
  case round =>
    obtain ⟨m, s, rfl, rfl, hm0, hm1, hs, hd, hb⟩ := hrel
    have HD := Lib.hid hd
    clear hd
    by_cases h : 0 < m
    · have hcv := run_convert_bytes_arg (P := Try.prog) (wr.alloc (.cells #[.int .u8 (48 + m % 10)] 5)) 22 5 Try.underlying22 Try.underlying5 wr.heap.size 0 1 1 [48 + m % 10] rfl
        (fun i hi => by have : i = 0 := by omega
                        subst this; simp) 9 Try.underlying9
      have HS := Lib.hid (strOfNums_size [48 + m % 10])
      have hs1 : (strOfNums [48 + m % 10]).size ≤ 1 := by have := HS.out; simp at this; omega
      go_wp2
      go_roundw
      case rel => exact ⟨m / 10, _, by go_num, rfl, by omega, by omega, by rw [ByteArray.size_append]; omega, (decs_step s h).trans HD.out, hb.alloc hb.size _⟩
      case measure => simp [intOf]; omega
    · have HE := Lib.hid (decs_end s (show m ≤ 0 by omega))
      have hs2 : (s.size : Int) ≤ 1000000000000000 := by omega
      go_wp2
      go_ret
      refine ⟨?_, hb⟩
      unfold markS
      rw [← HD.out, HE.out]
      rfl

/-- Numbers that are marks from k on. -/
def Marked (ys : List Int) (k : Int) (m : Nat) : Prop := ∀ j, j < m → nth ys j = k + j

theorem nth_set_same {ys : List Int} {j : Nat} {x : Int} (h : j < ys.length) : nth (ys.set j x) j = x := by simp [nth, h]
theorem nth_set_other {ys : List Int} {i j : Nat} {x : Int} (h : j ≠ i) : nth (ys.set j x) i = nth ys i := by simp [nth, h]
theorem Marked.start (ys : List Int) (k : Int) : Marked ys k 0 := fun j h => absurd h (by omega)
theorem Marked.step {ys : List Int} {k : Int} {m : Nat} (h : Marked ys k m) (hm : m < ys.length) : Marked (ys.set m (k + m)) k (m + 1) := by
  intro j hj
  by_cases e : m = j
  · subst e; exact nth_set_same hm
  · rw [nth_set_other e]; exact h j (by omega)

/-- What marking a slice of its own leaves: as many numbers, marks from k on; no other block has turned. -/
def MarkedInts (lo : Nat) (v : Value) (n : Nat) (k : Int) (w : World) (e : Ending) (w' : World) : Prop :=
  ∃ ys : List Int, e = .returned (.int .i64 (k + n)) ∧ ys.length = n ∧ Marked ys k n ∧ OwnInts w' lo v ys ∧ w.grownBy w' v.ownBlock ∧ w'.heap.size = w.heap.size

theorem OwnInts.form {w : World} {lo : Nat} {v : Value} {xs : List Int} (h : OwnInts w lo v xs) : (v = .slice none 0 0 ∧ xs = []) ∨ ∃ g cap, v = .slice (some ⟨g, 0, none⟩) xs.length cap ∧ lo ≤ g ∧ g < w.heap.size ∧ xs.length ≤ cap ∧ cap ≤ maxLen := by
  rcases h.2 with ⟨hv, h0⟩ | ⟨g, cap, cur, hv, hb, hg, hn, hm, _⟩
  · exact .inl ⟨hv, List.length_eq_zero_iff.1 h0⟩
  · exact .inr ⟨g, cap, hv, hb, (Array.getElem?_eq_some_iff.1 hg).1, hn, hm⟩

theorem markIntS_any (w : World) (lo : Nat) (v : Value) (xs : List Int) (hv : OwnInts w lo v xs) (k : Int) (h0 : 0 ≤ k) (h1 : k ≤ 1000000000000000) (hl : xs.length ≤ 1048576) :
    Calls Try.prog 44 #[v, .int .i64 k] w (MarkedInts lo v xs.length k w) := by
  rcases hv.form with ⟨rfl, rfl⟩ | ⟨g, cap, rfl, hg0, hg1, hc1, hc2⟩
  · have HV := Lib.hid hv
    clear hv
    go_enter Try.func44, Try.ntmps44
    go_wp2
    go_loop [1, 5] (fun q i => q = .int .i64 k ∧ i = .int .i64 0) (fun _ _ => 0)
    case atStart => exact ⟨rfl, rfl⟩
    case round =>
      obtain ⟨rfl, rfl⟩ := hrel
      go_wp2
      go_ret
      exact ⟨[], by simp, rfl, Marked.start _ _, HV.out, World.grownBy.refl _ _, rfl⟩
  · unfold maxLen at hc2
    obtain ⟨n, hn⟩ : ∃ n, xs.length = n := ⟨_, rfl⟩
    have HV := Lib.hid hv
    have HN := Lib.hid hn
    have hn1 : n ≤ 1048576 := by omega
    have hn2 : n ≤ cap := by omega
    rw [hn]
    clear hv hn hl hc1
    go_enter Try.func44, Try.ntmps44
    go_wp2
    go_loopw [1, 5] (fun q i wr => ∃ (m : Nat) (ys : List Int), m ≤ n ∧ i = .int .i64 m ∧ q = .int .i64 (k + m) ∧ ys.length = n ∧ Marked ys k m ∧ OwnInts wr lo (.slice (some ⟨g, 0, none⟩) n cap) ys ∧ w.grownBy wr (some g) ∧ wr.heap.size = w.heap.size) (fun _ i _ => n - (intOf i).toNat)
    case atStart => exact ⟨0, xs, Nat.zero_le _, rfl, by go_num, HN.out, Marked.start _ _, HN.out ▸ HV.out, World.grownBy.refl _ _, rfl⟩
    case round =>
      obtain ⟨m, ys, hm, rfl, rfl, hyl, hmk, hown, hgr, hsz⟩ := hrel
      have HY := Lib.hid hyl
      have HG := Lib.hid hgr
      have HZ := Lib.hid hsz
      by_cases hlt : m < n
      · have hown' : wr.ownsRow lo 3 1 (.slice (some ⟨g, 0, none⟩) n cap) n (ys.map (Value.int .i64)) := hyl ▸ hown
        have hc := hown'.cellAt m (by omega)
        rw [nth_map (by omega)] at hc
        have hf := hown'.frozenAt m
        obtain ⟨hs1, hs2⟩ := hown'.stored m (.int .i64 (k + m))
        have HM := Lib.hid (hmk.step (by omega))
        have HO : Hid (OwnInts (wr.setCell ⟨g, m, none⟩ (.int .i64 (k + m))) lo (.slice (some ⟨g, 0, none⟩) n cap) (ys.set m (k + m))) := by
          show World.ownsRow _ _ _ _ _ _ _
          rw [List.map_set, List.length_set, hyl]
          exact hs1
        have HG2 := Lib.hid (hgr.trans hs2)
        clear hown hown' hs1 hs2 hyl hgr hsz hmk
        go_wp2
        go_roundw
        case rel => exact ⟨m + 1, ys.set m (k + m), by omega, by go_num, by go_num, by rw [List.length_set]; exact HY.out, HM.out, HO.out, HG2.out, by simpa [World.setCell] using HZ.out⟩
        case measure => simp [intOf]; omega
      · obtain rfl : m = n := by omega
        have HO := Lib.hid hown
        clear hown hyl hgr hsz
        go_wp2
        go_ret
        exact ⟨ys, rfl, HY.out, hmk, HO.out, HG.out, HZ.out⟩

theorem heldIntS_any (w : World) (B : Nat) (v : Value) (ys : List Int) (hv : Ints w B v ys) (k : Int) (h0 : 0 ≤ k) (h1 : k ≤ 1000000000000000) (hl : ys.length ≤ 1048576) (hm : Marked ys k ys.length) :
    Calls Try.prog 45 #[v, .int .i64 k] w fun e w' => e = .returned (.int .i64 (k + ys.length)) ∧ w = w' := by
  obtain ⟨A, c, rfl, hc1, hc2, hrow⟩ := hv
  unfold maxLen at hc2
  have HM := Lib.hid hm
  clear hm
  go_enter Try.func45, Try.ntmps45
  go_wp2
  go_loop [1, 5] (fun q i => ∃ m : Nat, m ≤ ys.length ∧ i = .int .i64 m ∧ q = .int .i64 (k + m)) (fun _ i => ys.length - (intOf i).toNat)
  case atStart => exact ⟨0, Nat.zero_le _, rfl, by go_num⟩
  case round =>
    obtain ⟨m, hm, rfl, rfl⟩ := hrel
    by_cases hlt : m < ys.length
    · obtain ⟨b, off, rfl, hB, hcell⟩ := hrow (by omega)
      have hck : w.cell? ⟨b, off + m, none⟩ = some (.int .i64 (k + m)) := (hcell m hlt).trans (by show some (Value.int .i64 (nth ys m)) = _; rw [HM.out m hlt])
      clear hcell hrow
      go_wp2
      go_round
      case rel => exact ⟨m + 1, by omega, by go_num, by go_num⟩
      case measure => simp [intOf]; omega
    · obtain rfl : m = ys.length := by omega
      clear hrow
      go_wp2
      go_ret
      exact ⟨rfl, rfl⟩

end Go.Proofs.Ytkamlibfcakblaa

/- What WrtOk answers, of the program and of the model: the same bool of every write. -/
namespace Go.Proofs.Ytkamlibfcakblaa
open Go.RowKit

/-- Something that may be written: a name, and numbers, or none where it goes. -/
def wrtB (key : ByteArray) (del : Bool) (val : List Int) : Bool := keyB key && if del then val.isEmpty else valB val
theorem wrtB_key {key : ByteArray} {del : Bool} {val : List Int} (h : keyB key = false) : wrtB key del val = false := by simp [wrtB, h]
theorem wrtB_del {key : ByteArray} {val : List Int} (h : keyB key = true) : wrtB key true val = ((val.length : Int) == 0) := by
  simp only [wrtB, h, Bool.true_and, if_true]; cases val <;> simp; omega
theorem wrtB_val {key : ByteArray} {val : List Int} (h : keyB key = true) : wrtB key false val = valB val := by simp [wrtB, h]

theorem implWrtOk_any (w : World) (key : ByteArray) (del : Bool) (v : Value) (xs : List Int) (hk : key.size ≤ maxLen) (hv : Ints w w.heap.size v xs) :
    Calls Try.prog 66 #[.agg #[.string key, .bool del, v]] w fun e w' => e = .returned (.bool (wrtB key del xs)) ∧ Below w.heap.size w w' := by
  obtain ⟨A, c, rfl, hc2, hc1⟩ := hv.form
  have hv1 := fun o => hv.alloc (Nat.le_refl _) o
  have HV := Lib.hid hv1
  clear hv1
  unfold maxLen at hc2
  rcases hkb : keyB key
  · have HK := Lib.hid (wrtB_key (del := del) (val := xs) hkb)
    go_enter Try.func66, Try.ntmps66
    go_wp2_with (go_at_call 85; refine (keyOk_any _ _ hk).mono ?_; rintro e w' ⟨rfl, rfl⟩)
    go_ret
    exact ⟨ret_bool HK.out.symm, (Below.refl _ _).alloc (Nat.le_refl _) _⟩
  · cases del
    · have HK := Lib.hid (wrtB_val (val := xs) hkb)
      go_enter Try.func66, Try.ntmps66
      go_wp2_with (first | (go_at_call 85; refine (keyOk_any _ _ hk).mono ?_; rintro e w' ⟨rfl, rfl⟩) | (go_at_call 86; refine (numbersOk_any _ _ _ _ (HV.out _)).mono ?_; rintro e w' ⟨rfl, rfl⟩))
      go_ret
      exact ⟨ret_bool HK.out.symm, (Below.refl _ _).alloc (Nat.le_refl _) _⟩
    · have HK := Lib.hid (wrtB_del (val := xs) hkb)
      go_enter Try.func66, Try.ntmps66
      go_wp2_with (go_at_call 85; refine (keyOk_any _ _ hk).mono ?_; rintro e w' ⟨rfl, rfl⟩)
      go_ret
      exact ⟨ret_bool HK.out.symm, (Below.refl _ _).alloc (Nat.le_refl _) _⟩

theorem specWrtOk_any (w : World) (key : ByteArray) (del : Bool) (v : Value) (xs : List Int) (hk : key.size ≤ maxLen) (hv : Ints w w.heap.size v xs) :
    Calls Try.prog 107 #[.agg #[.string key, .bool del, v]] w fun e w' => e = .returned (.bool (wrtB key del xs)) ∧ Below w.heap.size w w' := by
  obtain ⟨A, c, rfl, hc2, hc1⟩ := hv.form
  have hv1 := fun o => hv.alloc (Nat.le_refl _) o
  have HV := Lib.hid hv1
  clear hv1
  unfold maxLen at hc2
  rcases hkb : keyB key
  · have HK := Lib.hid (wrtB_key (del := del) (val := xs) hkb)
    cases del
    all_goals
      go_enter Try.func107, Try.ntmps107
      go_wp2_with (go_at_call 106; refine (l1Key_any _ _ hk).mono ?_; rintro e w' ⟨rfl, rfl⟩)
      go_ret
      exact ⟨ret_bool HK.out.symm, (Below.refl _ _).alloc (Nat.le_refl _) _⟩
  · cases del
    · have HK := Lib.hid (wrtB_val (val := xs) hkb)
      go_enter Try.func107, Try.ntmps107
      go_wp2_with (first | (go_at_call 106; refine (l1Key_any _ _ hk).mono ?_; rintro e w' ⟨rfl, rfl⟩) | (go_at_call 134; refine (l1Val_any _ _ _ _ (HV.out _)).mono ?_; rintro e w' ⟨rfl, rfl⟩))
      go_ret
      exact ⟨ret_bool HK.out.symm, (Below.refl _ _).alloc (Nat.le_refl _) _⟩
    · have HK := Lib.hid (wrtB_del (val := xs) hkb)
      go_enter Try.func107, Try.ntmps107
      go_wp2_with (go_at_call 106; refine (l1Key_any _ _ hk).mono ?_; rintro e w' ⟨rfl, rfl⟩)
      go_ret
      exact ⟨ret_bool HK.out.symm, (Below.refl _ _).alloc (Nat.le_refl _) _⟩

end Go.Proofs.Ytkamlibfcakblaa

/- Writes, and how they lie in memory. -/
namespace Go.Proofs.Ytkamlibfcakblaa
open Go.RowKit

structure Wr where
  key : ByteArray
  del : Bool
  val : List Int
def Wr.ok (x : Wr) : Bool := wrtB x.key x.del x.val

/-- A slice value that reads as writes, below block B. -/
def Wrts (w : World) (B : Nat) (v : Value) (ws : List Wr) : Prop :=
  ∃ A c, v = .slice A ws.length c ∧ ws.length ≤ c ∧ c ≤ maxLen ∧ (0 < ws.length → ∃ b off, A = some ⟨b, off, none⟩ ∧ b < B ∧
    ∀ j x, ws[j]? = some x → x.key.size ≤ maxLen ∧ w.cell? ⟨b, off + j * 3, none⟩ = some (.string x.key) ∧ w.cell? ⟨b, off + j * 3 + 1, none⟩ = some (.bool x.del) ∧ ∃ u, w.cell? ⟨b, off + j * 3 + 2, none⟩ = some u ∧ Ints w B u x.val)
section
variable {w w' : World} {B B' : Nat} {v : Value} {ws : List Wr}
theorem Wrts.keep (h : Wrts w B v ws) (hk : ∀ b o, b < B → w'.cell? ⟨b, o, none⟩ = w.cell? ⟨b, o, none⟩) : Wrts w' B v ws := by
  obtain ⟨A, c, hv, h1, h2, hr⟩ := h
  refine ⟨A, c, hv, h1, h2, fun hn => ?_⟩
  obtain ⟨b, off, hA, hb, hc⟩ := hr hn
  refine ⟨b, off, hA, hb, fun j x hx => ?_⟩
  obtain ⟨hs, c1, c2, u, c3, hu⟩ := hc j x hx
  exact ⟨hs, (hk b _ hb).trans c1, (hk b _ hb).trans c2, u, (hk b _ hb).trans c3, hu.keep hk⟩
theorem Wrts.below (h : Wrts w B v ws) (hb : Below B w w') : Wrts w' B v ws := h.keep fun b o hB => hb.cell (p := ⟨b, o, none⟩) hB
theorem Wrts.form (h : Wrts w B v ws) : ∃ A c, v = .slice A ws.length c ∧ c ≤ maxLen ∧ ws.length ≤ c := by
  obtain ⟨A, c, hv, h1, h2, _⟩ := h
  exact ⟨A, c, hv, h2, h1⟩
theorem Wrts.at_ (h : Wrts w B v ws) {k : Nat} (hk : k < ws.length) : ∃ b off c x u, v = .slice (some ⟨b, off, none⟩) ws.length c ∧ ws[k]? = some x ∧ b < B ∧ x.key.size ≤ maxLen ∧
    w.cell? ⟨b, off + k * 3, none⟩ = some (.string x.key) ∧ w.cell? ⟨b, off + k * 3 + 1, none⟩ = some (.bool x.del) ∧ w.cell? ⟨b, off + k * 3 + 2, none⟩ = some u ∧ Ints w B u x.val := by
  obtain ⟨A, c, hv, _, _, hr⟩ := h
  obtain ⟨b, off, hA, hb, hc⟩ := hr (by omega)
  obtain ⟨hs, c1, c2, u, c3, hu⟩ := hc k _ (List.getElem?_eq_getElem hk)
  exact ⟨b, off, c, _, u, by rw [hv, hA], List.getElem?_eq_getElem hk, hb, hs, c1, c2, c3, hu⟩
end

end Go.Proofs.Ytkamlibfcakblaa

/- The shapes of the program's data: numbers, texts, things, writes, notes. -/
namespace Go.Proofs.Ytkamlibfcakblaa
open Go.RowKit

abbrev strSh : Sh ByteArray := Sh.str markS
abbrev intsSh : Sh (List Int) := Sh.int.sl 3 (by decide)
abbrev strsSh : Sh (List ByteArray) := strSh.sl 9 (by decide)
def wrSh : Sh Wr := (strSh.pair (Sh.bool.pair intsSh)).conv (fun x => (x.key, x.del, x.val)) (fun p => ⟨p.1, p.2.1, p.2.2⟩) rfl
def itSh : Sh Item := (strSh.pair intsSh).conv (fun x => (x.key, x.val)) (fun p => ⟨p.1, p.2⟩) rfl
abbrev wrsSh : Sh (List Wr) := wrSh.sl 86 (by decide)
abbrev itsSh : Sh (List Item) := itSh.sl 104 (by decide)
section
variable {w : World} {B : Nat} {S : Nat → Prop} {v : Value}
theorem ints_row {xs : List Int} : Sh.int.Row w B v xs ↔ Ints w B v xs := by
  constructor
  · rintro ⟨A, c, hv, h1, h2, hr⟩
    refine ⟨A, c, hv, h1, h2, fun hn => ?_⟩
    obtain ⟨b, off, hA, hb, hc⟩ := hr hn
    refine ⟨b, off, hA, hb, fun j hj => ?_⟩
    obtain ⟨cs, h3, h4⟩ := hc j _ (List.getElem?_eq_getElem hj)
    have h3' : cs = [.int .i64 xs[j]] := h3
    have := h4 0 (.int .i64 xs[j]) (by rw [h3']; rfl)
    show w.cell? _ = some (.int .i64 (nth xs j))
    rw [nth_get hj]
    simpa [Sh.int] using this
  · rintro ⟨A, c, hv, h1, h2, hr⟩
    refine ⟨A, c, hv, h1, h2, fun hn => ?_⟩
    obtain ⟨b, off, hA, hb, hc⟩ := hr hn
    refine ⟨b, off, hA, hb, fun j x hx => ⟨[.int .i64 x], rfl, fun i u hu => ?_⟩⟩
    have hj : j < xs.length := (List.getElem?_eq_some_iff.1 hx).1
    have hi : i = 0 := by
      have := (List.getElem?_eq_some_iff.1 hu).1
      simp at this; exact this
    subst hi
    have hu' : .int .i64 x = u := by simpa using hu
    have hx' : xs[j] = x := (List.getElem?_eq_some_iff.1 hx).2
    have : w.cell? ⟨b, off + j, none⟩ = some (.int .i64 (nth xs j)) := hc j hj
    rw [nth_get hj, hx', hu'] at this
    simpa [Sh.int] using this
theorem wr_rel {cs : List Value} {x : Wr} : wrSh.rel w B cs x ↔ ∃ u, cs = [.string x.key, .bool x.del, u] ∧ x.key.size ≤ maxLen ∧ Sh.int.Row w B u x.val := by
  constructor
  · rintro ⟨c1, c2, rfl, ⟨rfl, hs⟩, c3, c4, rfl, h2, u, rfl, h3⟩
    have h2' : c3 = [.bool x.del] := h2
    subst h2'
    exact ⟨u, rfl, hs, h3⟩
  · rintro ⟨u, rfl, hs, h3⟩
    exact ⟨_, _, rfl, ⟨rfl, hs⟩, _, _, rfl, rfl, u, rfl, h3⟩
theorem it_rel {cs : List Value} {x : Item} : itSh.rel w B cs x ↔ ∃ u, cs = [.string x.key, u] ∧ x.key.size ≤ maxLen ∧ Sh.int.Row w B u x.val := by
  constructor
  · rintro ⟨c1, c2, rfl, ⟨rfl, hs⟩, u, rfl, h3⟩
    exact ⟨u, rfl, hs, h3⟩
  · rintro ⟨u, rfl, hs, h3⟩
    exact ⟨_, _, rfl, ⟨rfl, hs⟩, u, rfl, h3⟩
theorem wrts_row {ws : List Wr} : wrSh.Row w B v ws ↔ Wrts w B v ws := by
  constructor
  · rintro ⟨A, c, hv, h1, h2, hr⟩
    refine ⟨A, c, hv, h1, h2, fun hn => ?_⟩
    obtain ⟨b, off, hA, hb, hc⟩ := hr hn
    refine ⟨b, off, hA, hb, fun j x hx => ?_⟩
    obtain ⟨cs, h3, h4⟩ := hc j x hx
    obtain ⟨u, rfl, hs, hu⟩ := wr_rel.1 h3
    exact ⟨hs, h4 0 _ rfl, h4 1 _ rfl, u, h4 2 _ rfl, ints_row.1 hu⟩
  · rintro ⟨A, c, hv, h1, h2, hr⟩
    refine ⟨A, c, hv, h1, h2, fun hn => ?_⟩
    obtain ⟨b, off, hA, hb, hc⟩ := hr hn
    refine ⟨b, off, hA, hb, fun j x hx => ?_⟩
    obtain ⟨hs, c0, c1, u, c2, hu⟩ := hc j x hx
    refine ⟨_, wr_rel.2 ⟨u, rfl, hs, ints_row.2 hu⟩, fun i y hy => ?_⟩
    have hi := (List.getElem?_eq_some_iff.1 hy).1
    rcases (by simp at hi; omega : i = 0 ∨ i = 1 ∨ i = 2) with rfl | rfl | rfl
    · have hy' : Value.string x.key = y := by simpa using hy
      rw [← hy']; exact c0
    · have hy' : Value.bool x.del = y := by simpa using hy
      rw [← hy']; exact c1
    · have hy' : u = y := by simpa using hy
      rw [← hy']; exact c2
theorem items_row {its : List Item} : itSh.Row w B v its ↔ Items w B v its := by
  constructor
  · rintro ⟨A, c, hv, h1, h2, hr⟩
    refine ⟨A, c, hv, h1, h2, fun hn => ?_⟩
    obtain ⟨b, off, hA, hb, hc⟩ := hr hn
    refine ⟨b, off, hA, hb, fun j x hx => ?_⟩
    obtain ⟨cs, h3, h4⟩ := hc j x hx
    obtain ⟨u, rfl, hs, hu⟩ := it_rel.1 h3
    exact ⟨hs, h4 0 _ rfl, u, h4 1 _ rfl, ints_row.1 hu⟩
  · rintro ⟨A, c, hv, h1, h2, hr⟩
    refine ⟨A, c, hv, h1, h2, fun hn => ?_⟩
    obtain ⟨b, off, hA, hb, hc⟩ := hr hn
    refine ⟨b, off, hA, hb, fun j x hx => ?_⟩
    obtain ⟨hs, c0, u, c1, hu⟩ := hc j x hx
    refine ⟨_, it_rel.2 ⟨u, rfl, hs, ints_row.2 hu⟩, fun i y hy => ?_⟩
    have hi := (List.getElem?_eq_some_iff.1 hy).1
    rcases (by simp at hi; omega : i = 0 ∨ i = 1) with rfl | rfl
    · have hy' : Value.string x.key = y := by simpa using hy
      rw [← hy']; exact c0
    · have hy' : u = y := by simpa using hy
      rw [← hy']; exact c1
theorem wr_own {cs : List Value} {x : Wr} : wrSh.own w S cs x ↔ ∃ u, cs = [.string x.key, .bool x.del, u] ∧ x.key.size ≤ maxLen ∧ Sh.int.Own 3 w S u x.val := by
  constructor
  · rintro ⟨c1, c2, S1, S2, rfl, ⟨rfl, hs⟩, ⟨c3, c4, S3, S4, rfl, h2, ⟨u, rfl, h3⟩, -, s4, -⟩, -, s2, -⟩
    have h2' : c3 = [.bool x.del] := h2
    subst h2'
    exact ⟨u, rfl, hs, h3.mono fun b hb => s2 b (s4 b hb)⟩
  · rintro ⟨u, rfl, hs, h3⟩
    exact ⟨_, _, fun _ => False, S, rfl, ⟨rfl, hs⟩, ⟨_, _, fun _ => False, S, rfl, rfl, ⟨u, rfl, h3⟩, fun _ h => h.elim, fun _ h => h, fun _ h _ => h⟩, fun _ h => h.elim, fun _ h => h, fun _ h _ => h⟩
theorem it_own {cs : List Value} {x : Item} : itSh.own w S cs x ↔ ∃ u, cs = [.string x.key, u] ∧ x.key.size ≤ maxLen ∧ Sh.int.Own 3 w S u x.val := by
  constructor
  · rintro ⟨c1, c2, S1, S2, rfl, ⟨rfl, hs⟩, ⟨u, rfl, h3⟩, -, s2, -⟩
    exact ⟨u, rfl, hs, h3.mono s2⟩
  · rintro ⟨u, rfl, hs, h3⟩
    exact ⟨_, _, fun _ => False, S, rfl, ⟨rfl, hs⟩, ⟨u, rfl, h3⟩, fun _ h => h.elim, fun _ h => h, fun _ h _ => h⟩
/-- A text at a place. -/
theorem strs_at {xs : List ByteArray} (h : strSh.Row w B v xs) {k : Nat} (hk : k < xs.length) : ∃ b off c x, v = .slice (some ⟨b, off, none⟩) xs.length c ∧ xs[k]? = some x ∧ b < B ∧ x.size ≤ maxLen ∧ w.cell? ⟨b, off + k, none⟩ = some (.string x) := by
  obtain ⟨b, off, c, x, cs, hv, hx, hb, ⟨rfl, hs⟩, hc⟩ := h.at_ hk
  have := hc 0 _ rfl
  exact ⟨b, off, c, x, hv, hx, hb, hs, by simpa [Sh.str] using this⟩
end

end Go.Proofs.Ytkamlibfcakblaa
