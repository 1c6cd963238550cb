/- Texts that follow each other, merged: ExItems, Own, Mark, Wrt, Wr, Shapes. -/
import Derived.Test.YtecdibpiojgppaaGreatXVal
import Derived.Deep.RegionHeld3
import Derived.Laws.AppendOwn
import Derived.Laws.OwnMore
import Derived.Maps.AppendAt
import Derived.Laws.BytesArg
import Derived.Test.YtecdibpiojgppaaGreatXShOwn

/- The helpers of the exact laws over things and stores: a count, a copy, a comparison. -/
namespace Go.Proofs.YtecdibpiojgppaaGreat
open Go.RowKit

/-- What is left behind n and then m more; -1 where that is less than none. -/
def lessTwo (left n m : Int) : Int := if left < n then -1 else less (left - n) m
/-- Of the first k things none is long. -/
def Short (its : List Item) (k : Nat) : Prop := ∀ j it, j < k → its[j]? = some it → it.key.size ≤ 1048576 ∧ it.val.length ≤ 1048576
/-- What a count of things says: a number from -1 to what was left; where it is not below 0 they are few, and short. -/
def Counted (left : Int) (its : List Item) (w : World) (e : Ending) (w' : World) : Prop :=
  ∃ r : Int, e = .returned (.int .i64 r) ∧ -1 ≤ r ∧ r ≤ left ∧ (0 ≤ r → its.length ≤ 1048576 ∧ Short its its.length) ∧ Below w.heap.size w w'

end Go.Proofs.YtecdibpiojgppaaGreat

/- Slices of integers that the call itself has made, by append. -/
namespace Go.Proofs.YtecdibpiojgppaaGreat
open Go.RowKit

/-- A slice of integers in a block of the call's own, from block lo on. -/
def OwnInts (w : World) (lo : Nat) (v : Value) (xs : List Int) : Prop := w.ownsRow lo 3 1 v xs.length (xs.map (Value.int .i64))

theorem nth_map {xs : List Int} {j : Nat} (h : j < xs.length) : (xs.map (Value.int .i64))[j]? = some (.int .i64 (nth xs j)) := by
  rw [List.getElem?_map, List.getElem?_eq_getElem h, nth_get h]; rfl
theorem OwnInts.ints {w : World} {lo : Nat} {v : Value} {xs : List Int} (h : OwnInts w lo v xs) : Ints w w.heap.size v xs := by
  rcases h.2 with ⟨rfl, h0⟩ | ⟨g, cap, cur, rfl, hb, hg, hn, hm, hs, ht⟩
  · exact ⟨none, 0, by rw [h0], by omega, Nat.zero_le _, fun hp => absurd hp (by omega)⟩
  · refine ⟨_, cap, rfl, hn, hm, fun _ => ⟨g, 0, rfl, (Array.getElem?_eq_some_iff.1 hg).1, fun j hj => ?_⟩⟩
    have := World.ownsRow.cellAt h j (by omega)
    rw [Nat.zero_add, this, nth_map hj]
theorem OwnInts.below {w w' : World} {lo : Nat} {v : Value} {xs : List Int} (h : OwnInts w lo v xs) (hb : Below w.heap.size w w') : OwnInts w' lo v xs :=
  h.kept (row := none) ⟨hb.os, hb.tape, hb.output, hb.size, fun k hk _ => hb.block k hk⟩ (by cases hv : v.ownBlock <;> simp)

set_option maxRecDepth 100000 in
/-- append of a slice of integers to one of the call's own. -/
theorem append_ints (w : World) (lo : Nat) (v : Value) (xs : List Int) (hv : OwnInts w lo v xs) (B : Nat) (A : Option Addr) (c : Nat) (ys : List Int) (hy : Ints w B (.slice A ys.length c) ys) (ty : TypeId)
    (hl : xs.length + ys.length ≤ 4194304) (hlo : lo ≤ w.heap.size) :
    ∃ v' w', (Builtin.append_ #[65, 65] ty #[v, .slice A ys.length c]).run Tryz.prog w = .ok v' w' ∧ OwnInts w' lo v' (xs ++ ys) ∧ w.grownBy w' v.ownBlock := by
  obtain ⟨i, hi, hz, hs, hb⟩ := info_parts infoInt
  obtain ⟨A', c', e, hc1, hc2, hrow⟩ := hy
  injection e with eA _ ec
  subst eA ec
  cases A with
  | none =>
    have h0 : ys = [] := by
      cases ys with
      | nil => rfl
      | cons y l =>
        obtain ⟨_, _, h, _⟩ := hrow (by simp)
        cases h
    subst h0
    refine ⟨v, w, ?_, by simpa [OwnInts] using hv, World.grownBy.refl _ _⟩
    rcases hv.2 with ⟨rfl, h0⟩ | ⟨g, cap, cur, rfl, _, _, hnc, _⟩
    · simp [Builtin.append_, run_underlying Tryz.underlying65, sizeOf, typeInfo, hi, Builtin.lenOf, Builtin.firstCells]
    · simp [Builtin.append_, run_underlying Tryz.underlying65, sizeOf, typeInfo, hi, Builtin.lenOf, Builtin.firstCells, hnc, storeCells]
  | some ad =>
    have hcells : ∀ j u, (ys.map (Value.int .i64))[j]? = some u → w.cell? (ad.add j) = some u := by
      intro j u hu
      have hj : j < ys.length := by
        have := (List.getElem?_eq_some_iff.1 hu).1
        simpa using this
      obtain ⟨b, off, e, _, hc⟩ := hrow (by omega)
      injection e with e
      subst e
      rw [nth_map hj] at hu
      rw [← hu, ← hc j hj]
      congr 1
      unfold Addr.add
      by_cases h : j = 0 <;> simp [h]
    obtain ⟨v', w', h1, h2, h3, _⟩ := run_append_own (P := Tryz.prog) w lo 65 ty 3 i (.int .i64 0) 1 8 Tryz.underlying65 hi hz hs hb rfl (by omega) v xs.length _ hv ad ys.length c (ys.map (Value.int .i64)) (by simp) hcells
      (by intro u hu; obtain ⟨n, _, rfl⟩ := List.mem_map.1 hu; rfl) (by unfold maxLen; omega) (by omega) hlo
    exact ⟨v', w', h1, by simpa [OwnInts] using h2, h3⟩

/-- The same, for the walk. -/
theorem wpl_append_ints {w : World} {ops : Array Oper} {rest : List Oper} {o : Oper} {a : Act} {Q : Exit → Act → World → Prop} (hgd : o.guard = none) (s x : Operand)
    (ho : o.op = .call { callee := .builtin .append, args := #[s, x], argTypes := #[65, 65] }) (lo : Nat) (v : Value) (xs : List Int) (hs : a.eval s = v) (hv : OwnInts w lo v xs)
    (B : Nat) (A : Option Addr) (c : Nat) (ys : List Int) (hx : a.eval x = .slice A ys.length c) (hy : Ints w B (.slice A ys.length c) ys) (hl : xs.length + ys.length ≤ 4194304) (hlo : lo ≤ w.heap.size)
    (h : ∀ v' w', OwnInts w' lo v' (xs ++ ys) → w.grownBy w' v.ownBlock → wpList Tryz.prog ops Q rest (a.put o.dst v') w') : wpList Tryz.prog ops Q (o :: rest) a w := by
  refine wpList_plain hgd fun K hK => ?_
  obtain ⟨v', w', hr, h2, h3⟩ := append_ints w lo v xs hv B A c ys hy o.type hl hlo
  unfold Oper.wp execOp
  simp only [ho, resolve, invoke, builtin, Sem.run_bind, Sem.run_pure, Result.andThen_ok, List.map_toArray, List.map_cons, List.map_nil, hs, hx, hr]
  exact hK _ _ (h v' w' h2 h3)

theorem OwnInts.empty (w : World) (lo : Nat) (hlo : lo ≤ w.heap.size) : OwnInts (w.alloc (.cells #[] 3)) lo (.slice (some ⟨w.heap.size, 0, none⟩) 0 0) [] :=
  World.ownsRow_made w #[] 0 hlo (Nat.zero_le _) (by simp)

set_option maxRecDepth 100000 in
theorem clone_any (w : World) (v : Value) (xs : List Int) (hv : Ints w w.heap.size v xs) (hl : xs.length ≤ 1048576) :
    Calls Tryz.prog 59 #[v] w fun e w' => ∃ u, e = .returned u ∧ OwnInts w' w.heap.size u xs ∧ Below w.heap.size w w' := by
  obtain ⟨A, c, rfl, hc2, hc1⟩ := hv.form
  have HV := Lib.hid hv
  clear hv
  have hq := fun W => Lib.run_eql_slice_nil (P := Tryz.prog) W 65 3 A xs.length c 0 0 Tryz.underlying65
  cases A with
  | none =>
    have hx : xs = [] := by
      obtain ⟨A', c', e, _, _, hrow⟩ := HV.out
      injection e with eA _ _
      subst eA
      cases xs with
      | nil => rfl
      | cons y l =>
        obtain ⟨_, _, h, _⟩ := hrow (by simp)
        cases h
    have HX := Lib.hid hx
    clear hx
    go_enter Tryz.func59, Tryz.ntmps59
    go_wp2
    go_ret
    exact ⟨_, rfl, by rw [HX.out]; exact World.ownsRow_nil _ _ _ _, Below.refl _ _⟩
  | some ad =>
    go_enter Tryz.func59, Tryz.ntmps59
    go_wp2_with (at_builtin; refine wpl_append_ints rfl _ _ rfl w.heap.size _ [] rfl (OwnInts.empty w w.heap.size (Nat.le_refl _)) w.heap.size _ _ xs rfl (HV.out.alloc (Nat.le_refl _) _) (by simp; omega) (by simp) ?_; intro u w1 hown hg; have HO := Lib.hid hown; have HG := Lib.hid hg; clear hown hg)
    go_ret
    exact ⟨_, rfl, HO.out, (belowOne _ _).grown HG.out (by simp) (fun k hk => Nat.le_of_eq (Option.some.inj hk))⟩

end Go.Proofs.YtecdibpiojgppaaGreat

/- Marks: a text of a number; numbers laid one behind the other; and whether they are held. -/
namespace Go.Proofs.YtecdibpiojgppaaGreat
open Go.RowKit

/-- One digit. -/
def digT (n : Int) : ByteArray := strOfNums [48 + n]
/-- The digits of a number, ahead of a text. -/
def decs (k : Int) (s : ByteArray) : ByteArray := if _h : 0 < k then decs (k / 10) (digT (k % 10) ++ s) else s
  termination_by k.toNat
  decreasing_by omega
/-- The text of a mark. -/
def markS (k : Int) : ByteArray := ⟨#[109]⟩ ++ decs k ⟨#[]⟩

/-- Numbers that are marks from k on. -/
def Marked (ys : List Int) (k : Int) (m : Nat) : Prop := ∀ j, j < m → nth ys j = k + j

/-- What marking a slice of its own leaves: as many numbers, marks from k on; no other block has turned. -/
def MarkedInts (lo : Nat) (v : Value) (n : Nat) (k : Int) (w : World) (e : Ending) (w' : World) : Prop :=
  ∃ ys : List Int, e = .returned (.int .i64 (k + n)) ∧ ys.length = n ∧ Marked ys k n ∧ OwnInts w' lo v ys ∧ w.grownBy w' v.ownBlock ∧ w'.heap.size = w.heap.size

theorem OwnInts.form {w : World} {lo : Nat} {v : Value} {xs : List Int} (h : OwnInts w lo v xs) : (v = .slice none 0 0 ∧ xs = []) ∨ ∃ g cap, v = .slice (some ⟨g, 0, none⟩) xs.length cap ∧ lo ≤ g ∧ g < w.heap.size ∧ xs.length ≤ cap ∧ cap ≤ maxLen := by
  rcases h.2 with ⟨hv, h0⟩ | ⟨g, cap, cur, hv, hb, hg, hn, hm, _⟩
  · exact .inl ⟨hv, List.length_eq_zero_iff.1 h0⟩
  · exact .inr ⟨g, cap, hv, hb, (Array.getElem?_eq_some_iff.1 hg).1, hn, hm⟩

end Go.Proofs.YtecdibpiojgppaaGreat

/- What WrtOk answers, of the program and of the model: the same bool of every write. -/
namespace Go.Proofs.YtecdibpiojgppaaGreat
open Go.RowKit

/-- Something that may be written: a name, and numbers, or none where it goes. -/
def wrtB (key : ByteArray) (del : Bool) (val : List Int) : Bool := keyB key && if del then val.isEmpty else valB val
theorem wrtB_key {key : ByteArray} {del : Bool} {val : List Int} (h : keyB key = false) : wrtB key del val = false := by simp [wrtB, h]
theorem wrtB_del {key : ByteArray} {val : List Int} (h : keyB key = true) : wrtB key true val = ((val.length : Int) == 0) := by
  simp only [wrtB, h, Bool.true_and, if_true]; cases val <;> simp; omega
theorem wrtB_val {key : ByteArray} {val : List Int} (h : keyB key = true) : wrtB key false val = valB val := by simp [wrtB, h]

theorem implWrtOk_any (w : World) (key : ByteArray) (del : Bool) (v : Value) (xs : List Int) (hk : key.size ≤ maxLen) (hv : Ints w w.heap.size v xs) :
    Calls Tryz.prog 44 #[.agg #[.string key, .bool del, v]] w fun e w' => e = .returned (.bool (wrtB key del xs)) ∧ Below w.heap.size w w' := by
  obtain ⟨A, c, rfl, hc2, hc1⟩ := hv.form
  have hv1 := fun o => hv.alloc (Nat.le_refl _) o
  have HV := Lib.hid hv1
  clear hv1
  unfold maxLen at hc2
  rcases hkb : keyB key
  · have HK := Lib.hid (wrtB_key (del := del) (val := xs) hkb)
    go_enter Tryz.func44, Tryz.ntmps44
    go_wp2_with (go_at_call 80; refine (keyOk_any _ _ hk).mono ?_; rintro e w' ⟨rfl, rfl⟩)
    go_ret
    exact ⟨ret_bool HK.out.symm, (Below.refl _ _).alloc (Nat.le_refl _) _⟩
  · cases del
    · have HK := Lib.hid (wrtB_val (val := xs) hkb)
      go_enter Tryz.func44, Tryz.ntmps44
      go_wp2_with (first | (go_at_call 80; refine (keyOk_any _ _ hk).mono ?_; rintro e w' ⟨rfl, rfl⟩) | (go_at_call 81; refine (numbersOk_any _ _ _ _ (HV.out _)).mono ?_; rintro e w' ⟨rfl, rfl⟩))
      go_ret
      exact ⟨ret_bool HK.out.symm, (Below.refl _ _).alloc (Nat.le_refl _) _⟩
    · have HK := Lib.hid (wrtB_del (val := xs) hkb)
      go_enter Tryz.func44, Tryz.ntmps44
      go_wp2_with (go_at_call 80; refine (keyOk_any _ _ hk).mono ?_; rintro e w' ⟨rfl, rfl⟩)
      go_ret
      exact ⟨ret_bool HK.out.symm, (Below.refl _ _).alloc (Nat.le_refl _) _⟩

theorem specWrtOk_any (w : World) (key : ByteArray) (del : Bool) (v : Value) (xs : List Int) (hk : key.size ≤ maxLen) (hv : Ints w w.heap.size v xs) :
    Calls Tryz.prog 102 #[.agg #[.string key, .bool del, v]] w fun e w' => e = .returned (.bool (wrtB key del xs)) ∧ Below w.heap.size w w' := by
  obtain ⟨A, c, rfl, hc2, hc1⟩ := hv.form
  have hv1 := fun o => hv.alloc (Nat.le_refl _) o
  have HV := Lib.hid hv1
  clear hv1
  unfold maxLen at hc2
  rcases hkb : keyB key
  · have HK := Lib.hid (wrtB_key (del := del) (val := xs) hkb)
    cases del
    all_goals
      go_enter Tryz.func102, Tryz.ntmps102
      go_wp2_with (go_at_call 105; refine (l1Key_any _ _ hk).mono ?_; rintro e w' ⟨rfl, rfl⟩)
      go_ret
      exact ⟨ret_bool HK.out.symm, (Below.refl _ _).alloc (Nat.le_refl _) _⟩
  · cases del
    · have HK := Lib.hid (wrtB_val (val := xs) hkb)
      go_enter Tryz.func102, Tryz.ntmps102
      go_wp2_with (first | (go_at_call 105; refine (l1Key_any _ _ hk).mono ?_; rintro e w' ⟨rfl, rfl⟩) | (go_at_call 106; refine (l1Val_any _ _ _ _ (HV.out _)).mono ?_; rintro e w' ⟨rfl, rfl⟩))
      go_ret
      exact ⟨ret_bool HK.out.symm, (Below.refl _ _).alloc (Nat.le_refl _) _⟩
    · have HK := Lib.hid (wrtB_del (val := xs) hkb)
      go_enter Tryz.func102, Tryz.ntmps102
      go_wp2_with (go_at_call 105; refine (l1Key_any _ _ hk).mono ?_; rintro e w' ⟨rfl, rfl⟩)
      go_ret
      exact ⟨ret_bool HK.out.symm, (Below.refl _ _).alloc (Nat.le_refl _) _⟩

end Go.Proofs.YtecdibpiojgppaaGreat

/- Writes, and how they lie in memory. -/
namespace Go.Proofs.YtecdibpiojgppaaGreat
open Go.RowKit

structure Wr where
  key : ByteArray
  del : Bool
  val : List Int
def Wr.ok (x : Wr) : Bool := wrtB x.key x.del x.val

/-- A slice value that reads as writes, below block B. -/
def Wrts (w : World) (B : Nat) (v : Value) (ws : List Wr) : Prop :=
  ∃ A c, v = .slice A ws.length c ∧ ws.length ≤ c ∧ c ≤ maxLen ∧ (0 < ws.length → ∃ b off, A = some ⟨b, off, none⟩ ∧ b < B ∧
    ∀ j x, ws[j]? = some x → x.key.size ≤ maxLen ∧ w.cell? ⟨b, off + j * 3, none⟩ = some (.string x.key) ∧ w.cell? ⟨b, off + j * 3 + 1, none⟩ = some (.bool x.del) ∧ ∃ u, w.cell? ⟨b, off + j * 3 + 2, none⟩ = some u ∧ Ints w B u x.val)
section
variable {w w' : World} {B B' : Nat} {v : Value} {ws : List Wr}
theorem Wrts.keep (h : Wrts w B v ws) (hk : ∀ b o, b < B → w'.cell? ⟨b, o, none⟩ = w.cell? ⟨b, o, none⟩) : Wrts w' B v ws := by
  obtain ⟨A, c, hv, h1, h2, hr⟩ := h
  refine ⟨A, c, hv, h1, h2, fun hn => ?_⟩
  obtain ⟨b, off, hA, hb, hc⟩ := hr hn
  refine ⟨b, off, hA, hb, fun j x hx => ?_⟩
  obtain ⟨hs, c1, c2, u, c3, hu⟩ := hc j x hx
  exact ⟨hs, (hk b _ hb).trans c1, (hk b _ hb).trans c2, u, (hk b _ hb).trans c3, hu.keep hk⟩
theorem Wrts.below (h : Wrts w B v ws) (hb : Below B w w') : Wrts w' B v ws := h.keep fun b o hB => hb.cell (p := ⟨b, o, none⟩) hB
theorem Wrts.form (h : Wrts w B v ws) : ∃ A c, v = .slice A ws.length c ∧ c ≤ maxLen ∧ ws.length ≤ c := by
  obtain ⟨A, c, hv, h1, h2, _⟩ := h
  exact ⟨A, c, hv, h2, h1⟩
theorem Wrts.at_ (h : Wrts w B v ws) {k : Nat} (hk : k < ws.length) : ∃ b off c x u, v = .slice (some ⟨b, off, none⟩) ws.length c ∧ ws[k]? = some x ∧ b < B ∧ x.key.size ≤ maxLen ∧
    w.cell? ⟨b, off + k * 3, none⟩ = some (.string x.key) ∧ w.cell? ⟨b, off + k * 3 + 1, none⟩ = some (.bool x.del) ∧ w.cell? ⟨b, off + k * 3 + 2, none⟩ = some u ∧ Ints w B u x.val := by
  obtain ⟨A, c, hv, _, _, hr⟩ := h
  obtain ⟨b, off, hA, hb, hc⟩ := hr (by omega)
  obtain ⟨hs, c1, c2, u, c3, hu⟩ := hc k _ (List.getElem?_eq_getElem hk)
  exact ⟨b, off, c, _, u, by rw [hv, hA], List.getElem?_eq_getElem hk, hb, hs, c1, c2, c3, hu⟩
end

end Go.Proofs.YtecdibpiojgppaaGreat

/- The shapes of the program's data: numbers, texts, things, writes, notes. -/
namespace Go.Proofs.YtecdibpiojgppaaGreat
open Go.RowKit

abbrev strSh : Sh ByteArray := Sh.str markS
abbrev intsSh : Sh (List Int) := Sh.int.sl 3 (by decide)
abbrev strsSh : Sh (List ByteArray) := strSh.sl 9 (by decide)
def wrSh : Sh Wr := (strSh.pair (Sh.bool.pair intsSh)).conv (fun x => (x.key, x.del, x.val)) (fun p => ⟨p.1, p.2.1, p.2.2⟩) rfl
def itSh : Sh Item := (strSh.pair intsSh).conv (fun x => (x.key, x.val)) (fun p => ⟨p.1, p.2⟩) rfl
abbrev wrsSh : Sh (List Wr) := wrSh.sl 77 (by decide)
abbrev itsSh : Sh (List Item) := itSh.sl 95 (by decide)
section
variable {w : World} {B : Nat} {S : Nat → Prop} {v : Value}
theorem ints_row {xs : List Int} : Sh.int.Row w B v xs ↔ Ints w B v xs := by
  constructor
  · rintro ⟨A, c, hv, h1, h2, hr⟩
    refine ⟨A, c, hv, h1, h2, fun hn => ?_⟩
    obtain ⟨b, off, hA, hb, hc⟩ := hr hn
    refine ⟨b, off, hA, hb, fun j hj => ?_⟩
    obtain ⟨cs, h3, h4⟩ := hc j _ (List.getElem?_eq_getElem hj)
    have h3' : cs = [.int .i64 xs[j]] := h3
    have := h4 0 (.int .i64 xs[j]) (by rw [h3']; rfl)
    show w.cell? _ = some (.int .i64 (nth xs j))
    rw [nth_get hj]
    simpa [Sh.int] using this
  · rintro ⟨A, c, hv, h1, h2, hr⟩
    refine ⟨A, c, hv, h1, h2, fun hn => ?_⟩
    obtain ⟨b, off, hA, hb, hc⟩ := hr hn
    refine ⟨b, off, hA, hb, fun j x hx => ⟨[.int .i64 x], rfl, fun i u hu => ?_⟩⟩
    have hj : j < xs.length := (List.getElem?_eq_some_iff.1 hx).1
    have hi : i = 0 := by
      have := (List.getElem?_eq_some_iff.1 hu).1
      simp at this; exact this
    subst hi
    have hu' : .int .i64 x = u := by simpa using hu
    have hx' : xs[j] = x := (List.getElem?_eq_some_iff.1 hx).2
    have : w.cell? ⟨b, off + j, none⟩ = some (.int .i64 (nth xs j)) := hc j hj
    rw [nth_get hj, hx', hu'] at this
    simpa [Sh.int] using this
theorem wr_rel {cs : List Value} {x : Wr} : wrSh.rel w B cs x ↔ ∃ u, cs = [.string x.key, .bool x.del, u] ∧ x.key.size ≤ maxLen ∧ Sh.int.Row w B u x.val := by
  constructor
  · rintro ⟨c1, c2, rfl, ⟨rfl, hs⟩, c3, c4, rfl, h2, u, rfl, h3⟩
    have h2' : c3 = [.bool x.del] := h2
    subst h2'
    exact ⟨u, rfl, hs, h3⟩
  · rintro ⟨u, rfl, hs, h3⟩
    exact ⟨_, _, rfl, ⟨rfl, hs⟩, _, _, rfl, rfl, u, rfl, h3⟩
theorem it_rel {cs : List Value} {x : Item} : itSh.rel w B cs x ↔ ∃ u, cs = [.string x.key, u] ∧ x.key.size ≤ maxLen ∧ Sh.int.Row w B u x.val := by
  constructor
  · rintro ⟨c1, c2, rfl, ⟨rfl, hs⟩, u, rfl, h3⟩
    exact ⟨u, rfl, hs, h3⟩
  · rintro ⟨u, rfl, hs, h3⟩
    exact ⟨_, _, rfl, ⟨rfl, hs⟩, u, rfl, h3⟩
theorem wrts_row {ws : List Wr} : wrSh.Row w B v ws ↔ Wrts w B v ws := by
  constructor
  · rintro ⟨A, c, hv, h1, h2, hr⟩
    refine ⟨A, c, hv, h1, h2, fun hn => ?_⟩
    obtain ⟨b, off, hA, hb, hc⟩ := hr hn
    refine ⟨b, off, hA, hb, fun j x hx => ?_⟩
    obtain ⟨cs, h3, h4⟩ := hc j x hx
    obtain ⟨u, rfl, hs, hu⟩ := wr_rel.1 h3
    exact ⟨hs, h4 0 _ rfl, h4 1 _ rfl, u, h4 2 _ rfl, ints_row.1 hu⟩
  · rintro ⟨A, c, hv, h1, h2, hr⟩
    refine ⟨A, c, hv, h1, h2, fun hn => ?_⟩
    obtain ⟨b, off, hA, hb, hc⟩ := hr hn
    refine ⟨b, off, hA, hb, fun j x hx => ?_⟩
    obtain ⟨hs, c0, c1, u, c2, hu⟩ := hc j x hx
    refine ⟨_, wr_rel.2 ⟨u, rfl, hs, ints_row.2 hu⟩, fun i y hy => ?_⟩
    have hi := (List.getElem?_eq_some_iff.1 hy).1
    rcases (by simp at hi; omega : i = 0 ∨ i = 1 ∨ i = 2) with rfl | rfl | rfl
    · have hy' : Value.string x.key = y := by simpa using hy
      rw [← hy']; exact c0
    · have hy' : Value.bool x.del = y := by simpa using hy
      rw [← hy']; exact c1
    · have hy' : u = y := by simpa using hy
      rw [← hy']; exact c2
theorem items_row {its : List Item} : itSh.Row w B v its ↔ Items w B v its := by
  constructor
  · rintro ⟨A, c, hv, h1, h2, hr⟩
    refine ⟨A, c, hv, h1, h2, fun hn => ?_⟩
    obtain ⟨b, off, hA, hb, hc⟩ := hr hn
    refine ⟨b, off, hA, hb, fun j x hx => ?_⟩
    obtain ⟨cs, h3, h4⟩ := hc j x hx
    obtain ⟨u, rfl, hs, hu⟩ := it_rel.1 h3
    exact ⟨hs, h4 0 _ rfl, u, h4 1 _ rfl, ints_row.1 hu⟩
  · rintro ⟨A, c, hv, h1, h2, hr⟩
    refine ⟨A, c, hv, h1, h2, fun hn => ?_⟩
    obtain ⟨b, off, hA, hb, hc⟩ := hr hn
    refine ⟨b, off, hA, hb, fun j x hx => ?_⟩
    obtain ⟨hs, c0, u, c1, hu⟩ := hc j x hx
    refine ⟨_, it_rel.2 ⟨u, rfl, hs, ints_row.2 hu⟩, fun i y hy => ?_⟩
    have hi := (List.getElem?_eq_some_iff.1 hy).1
    rcases (by simp at hi; omega : i = 0 ∨ i = 1) with rfl | rfl
    · have hy' : Value.string x.key = y := by simpa using hy
      rw [← hy']; exact c0
    · have hy' : u = y := by simpa using hy
      rw [← hy']; exact c1
theorem wr_own {cs : List Value} {x : Wr} : wrSh.own w S cs x ↔ ∃ u, cs = [.string x.key, .bool x.del, u] ∧ x.key.size ≤ maxLen ∧ Sh.int.Own 3 w S u x.val := by
  constructor
  · rintro ⟨c1, c2, S1, S2, rfl, ⟨rfl, hs⟩, ⟨c3, c4, S3, S4, rfl, h2, ⟨u, rfl, h3⟩, -, s4, -⟩, -, s2, -⟩
    have h2' : c3 = [.bool x.del] := h2
    subst h2'
    exact ⟨u, rfl, hs, h3.mono fun b hb => s2 b (s4 b hb)⟩
  · rintro ⟨u, rfl, hs, h3⟩
    exact ⟨_, _, fun _ => False, S, rfl, ⟨rfl, hs⟩, ⟨_, _, fun _ => False, S, rfl, rfl, ⟨u, rfl, h3⟩, fun _ h => h.elim, fun _ h => h, fun _ h _ => h⟩, fun _ h => h.elim, fun _ h => h, fun _ h _ => h⟩
theorem it_own {cs : List Value} {x : Item} : itSh.own w S cs x ↔ ∃ u, cs = [.string x.key, u] ∧ x.key.size ≤ maxLen ∧ Sh.int.Own 3 w S u x.val := by
  constructor
  · rintro ⟨c1, c2, S1, S2, rfl, ⟨rfl, hs⟩, ⟨u, rfl, h3⟩, -, s2, -⟩
    exact ⟨u, rfl, hs, h3.mono s2⟩
  · rintro ⟨u, rfl, hs, h3⟩
    exact ⟨_, _, fun _ => False, S, rfl, ⟨rfl, hs⟩, ⟨u, rfl, h3⟩, fun _ h => h.elim, fun _ h => h, fun _ h _ => h⟩
/-- A text at a place. -/
theorem strs_at {xs : List ByteArray} (h : strSh.Row w B v xs) {k : Nat} (hk : k < xs.length) : ∃ b off c x, v = .slice (some ⟨b, off, none⟩) xs.length c ∧ xs[k]? = some x ∧ b < B ∧ x.size ≤ maxLen ∧ w.cell? ⟨b, off + k, none⟩ = some (.string x) := by
  obtain ⟨b, off, c, x, cs, hv, hx, hb, ⟨rfl, hs⟩, hc⟩ := h.at_ hk
  have := hc 0 _ rfl
  exact ⟨b, off, c, x, hv, hx, hb, hs, by simpa [Sh.str] using this⟩
end

end Go.Proofs.YtecdibpiojgppaaGreat
