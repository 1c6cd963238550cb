/- Texts that follow each other, merged: FrameRow, ShapesSto, FrameGlo, SecSum, OpOkS, FrameOp. -/
import Derived.Test.YtmbkhohgciakfaaGreatXPlain
import Derived.Test.YtmbkhohgciakfaaGreatXExItems
import Derived.Deep.Strs
import Derived.Test.YtmbkhohgciakfaaGreatXKey
import Derived.Deep.RegionHeld3

/- From the reading of an argument to the words of shapes: rows, records, writes. -/
namespace Go.Proofs.YtmbkhohgciakfaaGreat
open Go.ChangeShapes Go.WideShapes Go.ChangeAt Go.RowKit Go.Joins Go.Deep

/-- Cells of a type that came in read as something of a shape. -/
def Reads {α : Type} (A : Sh α) (t : TypeId) (W : World) {H : Type} (enc : TypeId × Value → H) : Prop :=
  ∀ (fuel : Nat) (cs : List Value) (y : DataW H × List MemPlace), DataW.trod enc Tryz.prog W 0 (fun _ => true) true fuel t cs = some y → ∃ x, A.rel W W.heap.size cs x

section
variable {α : Type} {A : Sh α} {H : Type} {enc : TypeId × Value → H} {W : World}
theorem reads_int {t : TypeId} (ht : Tryz.prog.underlying t = some (.int .i64)) : Reads Sh.int t W enc := fun fuel cs y h => by
  obtain ⟨n, hcs, _⟩ := DataW.trod_int ht h
  exact ⟨n, hcs⟩
theorem reads_bool {t : TypeId} (ht : Tryz.prog.underlying t = some .bool) : Reads Sh.bool t W enc := fun fuel cs y h => by
  obtain ⟨n, hcs, _⟩ := DataW.trod_bool ht h
  exact ⟨n, hcs⟩
theorem reads_str {t : TypeId} (ht : Tryz.prog.underlying t = some .string) : Reads strSh t W enc := fun fuel cs y h => by
  obtain ⟨s, hcs, _, hs⟩ := DataW.trod_string ht h
  exact ⟨s, hcs, hs⟩
theorem reads_row {t e : TypeId} (ht : Tryz.prog.underlying t = some (.slice e)) (hc : Tryz.prog.cellsOf e = A.wd) (hwd : 0 < A.wd) (hA : Reads A e W enc) {fuel : Nat} {cs : List Value} {y : DataW H × List MemPlace}
    (h : DataW.trod enc Tryz.prog W 0 (fun _ => true) true fuel t cs = some y) : ∃ v xs, cs = [v] ∧ A.Row W W.heap.size v xs := by
  rcases open_slice ht h with ⟨hcs, _⟩ | ⟨a, len, cap, m, n, D, Pl, hcs, _, hl, hm, hmm, _, hi⟩
  · exact ⟨_, [], hcs, Sh.Row.nil _ _⟩
  · have hmc : m = cap := by simpa using hmm
    rw [hc] at hi
    have hat : ∀ i, i < len → ∃ x : α, ∃ cs', A.rel W W.heap.size cs' x ∧ ∀ j u, cs'[j]? = some u → W.cell? ((a.add (i * A.wd)).add j) = some u := by
      intro i hil
      obtain ⟨cs', hcc, ht'⟩ := hi i (by omega)
      obtain ⟨x, hx⟩ := hA _ _ _ ht'
      obtain ⟨_, hcl, hcell⟩ := World.cells?_some hcc
      refine ⟨x, cs', hx, fun j u hu => ?_⟩
      have hj : j < A.wd := by have := (List.getElem?_eq_some_iff.1 hu).1; omega
      rw [hcell j hj, hu]
    obtain ⟨xs, hlen, hq⟩ := listOf len hat
    refine ⟨_, xs, hcs, some a, cap, by rw [hlen], by omega, hm, fun hp => ?_⟩
    obtain ⟨cs0, hr0, hc0⟩ := hq 0 _ (List.getElem?_eq_getElem hp)
    have hl0 : 0 < cs0.length := by rw [A.rlen hr0]; exact hwd
    have h0 := hc0 0 _ (List.getElem?_eq_getElem hl0)
    obtain ⟨b, off, spot⟩ := a
    have hspot : spot = none := by
      have := World.cell?_spot h0
      simpa [Addr.add] using this
    subst hspot
    have hb : b < W.heap.size := cellLt (o := off) (by simpa [Addr.add] using h0)
    refine ⟨b, off, rfl, hb, fun j x hx => ?_⟩
    obtain ⟨cs', hr, hcell⟩ := hq j x hx
    refine ⟨cs', hr, fun i u hu => ?_⟩
    have := hcell i u hu
    rwa [add_none, add_none] at this
theorem reads_sl {t e tid : TypeId} {hb : A.base ≤ 16} (ht : Tryz.prog.underlying t = some (.slice e)) (hc : Tryz.prog.cellsOf e = A.wd) (hwd : 0 < A.wd) (hA : Reads A e W enc) : Reads (A.sl tid hb) t W enc := fun fuel cs y h => by
  obtain ⟨v, xs, h1, h2⟩ := reads_row ht hc hwd hA h
  exact ⟨xs, v, h1, h2⟩
end

theorem list3 {α : Type} {l : List α} (h : l.length = 3) : ∃ a b c, l = [a, b, c] := by
  match l, h with
  | [a, b, c], _ => exact ⟨a, b, c, rfl⟩
theorem list4 {α : Type} {l : List α} (h : l.length = 4) : ∃ a b c d, l = [a, b, c, d] := by
  match l, h with
  | [a, b, c, d], _ => exact ⟨a, b, c, d, rfl⟩

theorem cellsBool : Tryz.prog.cellsOf 4 = 1 := by kernel_rfl
theorem cellsSlS : Tryz.prog.cellsOf 28 = 1 := by kernel_rfl
section
variable {H : Type} {enc : TypeId × Value → H} {W : World}
theorem reads_ints : Reads intsSh 50 W enc := reads_sl Tryz.underlying50 cellsInt (by decide) (reads_int Tryz.underlying3)
theorem reads_strs : Reads strsSh 28 W enc := reads_sl Tryz.underlying28 cellsStr (by decide) (reads_str Tryz.underlying9)
set_option maxRecDepth 100000 in
/-- A record by value. -/
theorem readsAg {α : Type} {A : Sh α} {t : TypeId} {fs : Array Field} (ht : Tryz.prog.underlying t = some (.struct fs)) (hA : Reads A t W enc) {b0 : Nat} {v : Value} {d : DataW H} {p : List MemPlace}
    (hv : Value.okWide Tryz.prog W .any b0 t v) (h : DataW.Trod enc Tryz.prog W 0 (fun _ => true) true t v d p) : ∃ cs x, v = .agg (List.toArray cs) ∧ A.rel W W.heap.size cs x := by
  obtain ⟨cs, rfl, hsz⟩ := okWide_struct ht hv
  obtain ⟨fuel, hf⟩ := h
  obtain ⟨l⟩ := cs
  obtain ⟨x, hx⟩ := hA _ _ _ hf
  exact ⟨l, x, rfl, by simpa [Value.cells] using hx⟩
end

end Go.Proofs.YtmbkhohgciakfaaGreat

/- The shape of what a place keeps, and of what some places keep. -/
namespace Go.Proofs.YtmbkhohgciakfaaGreat
open Go.RowKit

/-- What a place keeps. -/
structure Sto where
  items : List Item
def stoSh : Sh Sto := itsSh.conv (fun x => x.items) (fun p => ⟨p⟩) rfl
abbrev stosSh : Sh (List Sto) := stoSh.sl 35 (by decide)
section
variable {w : World} {B : Nat} {S : Nat → Prop} {v : Value}
theorem sto_rel {cs : List Value} {x : Sto} : stoSh.rel w B cs x ↔ ∃ u, cs = [u] ∧ itSh.Row w B u x.items := Iff.rfl
theorem sto_own {cs : List Value} {x : Sto} : stoSh.own w S cs x ↔ ∃ u, cs = [u] ∧ itSh.Own 98 w S u x.items := Iff.rfl
/-- What one of some places keeps. -/
theorem stos_at {xs : List Sto} (h : stoSh.Row w B v xs) {k : Nat} (hk : k < xs.length) : ∃ b off c x u, v = .slice (some ⟨b, off, none⟩) xs.length c ∧ xs[k]? = some x ∧ b < B ∧ w.cell? ⟨b, off + k, none⟩ = some u ∧ itSh.Row w B u x.items := by
  obtain ⟨b, off, c, x, cs, hv, hx, hb, ⟨u, rfl, hu⟩, hc⟩ := h.at_ hk
  have := hc 0 _ rfl
  have hwd : stoSh.wd = 1 := rfl
  rw [hwd] at this
  exact ⟨b, off, c, x, u, hv, hx, hb, by simpa using this, hu⟩
end

end Go.Proofs.YtmbkhohgciakfaaGreat

/- From the reading of slices that came in, and of stores in them. -/
namespace Go.Proofs.YtmbkhohgciakfaaGreat
open Go.ChangeShapes Go.WideShapes Go.ChangeAt Go.RowKit Go.Joins Go.Deep

section
variable {H : Type} {enc : TypeId × Value → H} {W : World}
theorem reads_sto : Reads stoSh 24 W enc := fun fuel cs y h => by
  obtain ⟨y0, n, _, hl, t0⟩ := trod_struct1 Tryz.underlying24 h
  obtain ⟨u, rfl⟩ := list1 (hl.trans cellsSto)
  have t0' : DataW.trod enc Tryz.prog W 0 (fun _ => true) true n 22 [u] = some y0 := by
    have := t0
    simp only [cellsSlI] at this
    simpa using this
  obtain ⟨its, hits⟩ := itemsOf t0'
  exact ⟨⟨its⟩, sto_rel.2 ⟨u, rfl, items_row.2 hits⟩⟩
set_option maxRecDepth 100000 in
/-- A slice. -/
theorem rowArg {α : Type} {A : Sh α} {t e : TypeId} (ht : Tryz.prog.underlying t = some (.slice e)) (hc : Tryz.prog.cellsOf e = A.wd) (hwd : 0 < A.wd) (hA : Reads A e W enc) {b0 : Nat} {v : Value} {d : DataW H} {p : List MemPlace}
    (hv : Value.okWide Tryz.prog W .any b0 t v) (h : DataW.Trod enc Tryz.prog W 0 (fun _ => true) true t v d p) : ∃ xs, A.Row W W.heap.size v xs := by
  obtain ⟨a, len, cap, rfl⟩ := okWide_slice ht hv
  obtain ⟨fuel, hf⟩ := h
  obtain ⟨v', xs, e1, hx⟩ := reads_row ht hc hwd hA hf
  have : Value.slice a len cap = v' := by simpa [Value.cells] using e1
  exact ⟨xs, this ▸ hx⟩
end

end Go.Proofs.YtmbkhohgciakfaaGreat

/- What SecSum answers, of the program and of the model: the same number of every number. -/
namespace Go.Proofs.YtmbkhohgciakfaaGreat
open Go.RowKit

/-- The sum of a secret; -1 of what is none. -/
def secS (n : Int) : Int := if 0 ≤ n ∧ n ≤ 99 then (7919 * n + 104) % 9973 else -1
theorem secS_yes {n : Int} (h : 0 ≤ n) (h' : n ≤ 99) : secS n = (7919 * n + 104) % 9973 := by unfold secS; rw [if_pos ⟨h, h'⟩]
theorem secS_no {n : Int} (h : n < 0 ∨ 99 < n) : secS n = -1 := by unfold secS; rw [if_neg (by omega)]

theorem within_any (n lo hi : Int) (w : World) :
    Calls Tryz.prog 103 #[.int .i64 n, .int .i64 lo, .int .i64 hi] w fun e w' => e = .returned (.bool (inB n lo hi)) ∧ w = w' := by
  by_cases h1 : lo ≤ n
  · by_cases h2 : n ≤ hi
    · go_enter Tryz.func103, Tryz.ntmps103
      go_wp2
      go_ret
      exact ⟨ret_bool (by unfold inB; simp [h1, h2]), rfl⟩
    · go_enter Tryz.func103, Tryz.ntmps103
      go_wp2
      go_ret
      exact ⟨ret_bool (by unfold inB; simp [h1, h2]), rfl⟩
  · go_enter Tryz.func103, Tryz.ntmps103
    go_wp2
    go_ret
    exact ⟨ret_bool (by rw [inB_no (by omega)]), rfl⟩

theorem implSecSum_any (n : Int) (w : World) :
    Calls Tryz.prog 173 #[.int .i64 n] w fun e w' => e = .returned (.int .i64 (secS n)) ∧ w = w' := by
  by_cases h : 0 ≤ n ∧ n ≤ 99
  · obtain ⟨h0, h1⟩ := h
    have hb := inB_yes h0 h1
    go_enter Tryz.func173, Tryz.ntmps173
    go_wp2_with (go_at_call 103; refine (within_any _ _ _ _).mono ?_; rintro e w' ⟨rfl, rfl⟩)
    go_ret
    exact ⟨ret_int (by rw [secS_yes h0 h1]), rfl⟩
  · have hn : n < 0 ∨ 99 < n := by omega
    have hb := inB_no hn
    clear h
    have HN := Lib.hid hn
    clear hn
    go_enter Tryz.func173, Tryz.ntmps173
    go_wp2_with (go_at_call 103; refine (within_any _ _ _ _).mono ?_; rintro e w' ⟨rfl, rfl⟩)
    go_ret
    exact ⟨ret_int (by rw [secS_no HN.out]), rfl⟩

theorem specSecSum_any (n : Int) (w : World) :
    Calls Tryz.prog 115 #[.int .i64 n] w fun e w' => e = .returned (.int .i64 (secS n)) ∧ w = w' := by
  by_cases h : 0 ≤ n ∧ n ≤ 99
  · obtain ⟨h0, h1⟩ := h
    have hb := inB_yes h0 h1
    go_enter Tryz.func115, Tryz.ntmps115
    go_wp2_with (go_at_call 43; refine (l1In_any _ _ _ _).mono ?_; rintro e w' ⟨rfl, rfl⟩)
    go_ret
    exact ⟨ret_int (by rw [secS_yes h0 h1]; omega), rfl⟩
  · have hn : n < 0 ∨ 99 < n := by omega
    have hb := inB_no hn
    clear h
    have HN := Lib.hid hn
    clear hn
    go_enter Tryz.func115, Tryz.ntmps115
    go_wp2_with (go_at_call 43; refine (l1In_any _ _ _ _).mono ?_; rintro e w' ⟨rfl, rfl⟩)
    go_ret
    exact ⟨ret_int (by rw [secS_no HN.out]), rfl⟩

end Go.Proofs.YtmbkhohgciakfaaGreat

/- What OpOk answers, of the program and of the model: the same bool of everything that is done. By opgen.py. -/
namespace Go.Proofs.YtmbkhohgciakfaaGreat
open Go.RowKit

/-- What is done: its kind and its numbers. -/
structure Op where
  kind : Int
  who : Int
  inn : Int
  code : Int
  sec : Int
  fam : Int
  gen : Int
deriving DecidableEq
/-- The numbers that its kind has not are noughts. -/
def opK (o : Op) : Bool :=
  if (o.kind == 1 || o.kind == 5) = true then (o.code == 0 && (o.sec == 0 && (o.fam == 0 && o.gen == 0)))
  else if (o.kind == 2) = true then (o.fam == 0 && o.gen == 0)
  else if (o.kind == 3) = true then (o.who == 0 && (o.inn == 0 && o.gen == 0))
  else if (o.kind == 4) = true then (o.who == 0 && (o.inn == 0 && (o.code == 0 && o.sec == 0)))
  else false
def opB (o : Op) : Bool :=
  inB o.who 0 9 && (inB o.inn 0 9 && (inB o.code 0 9 && (inB o.sec 0 99 && (inB o.fam 0 9 && (inB o.gen 0 99 && opK o)))))
abbrev opV (o : Op) : Value := .agg #[.int .i64 o.kind, .int .i64 o.who, .int .i64 o.inn, .int .i64 o.code, .int .i64 o.sec, .int .i64 o.fam, .int .i64 o.gen]

set_option maxRecDepth 100000 in
set_option maxHeartbeats 2000000 in
theorem specOpOk_any (w : World) (o : Op) :
    Calls Tryz.prog 34 #[.agg #[.int .i64 o.kind, .int .i64 o.who, .int .i64 o.inn, .int .i64 o.code, .int .i64 o.sec, .int .i64 o.fam, .int .i64 o.gen]] w fun e w' => e = .returned (.bool (opB o)) ∧ Below w.heap.size w w' := by
  rcases h_who : inB o.who 0 9
  · go_enter Tryz.func34, Tryz.ntmps34
    go_wp2_with (go_at_call 43; refine (l1In_any _ _ _ _).mono ?_; rintro e w' ⟨rfl, rfl⟩)
    go_ret
    exact ⟨ret_bool (by simp only [opB, opK, *] <;> rfl), belowOne _ _⟩
  rcases h_inn : inB o.inn 0 9
  · go_enter Tryz.func34, Tryz.ntmps34
    go_wp2_with (go_at_call 43; refine (l1In_any _ _ _ _).mono ?_; rintro e w' ⟨rfl, rfl⟩)
    go_ret
    exact ⟨ret_bool (by simp only [opB, opK, *] <;> rfl), belowOne _ _⟩
  rcases h_code : inB o.code 0 9
  · go_enter Tryz.func34, Tryz.ntmps34
    go_wp2_with (go_at_call 43; refine (l1In_any _ _ _ _).mono ?_; rintro e w' ⟨rfl, rfl⟩)
    go_ret
    exact ⟨ret_bool (by simp only [opB, opK, *] <;> rfl), belowOne _ _⟩
  rcases h_sec : inB o.sec 0 99
  · go_enter Tryz.func34, Tryz.ntmps34
    go_wp2_with (go_at_call 43; refine (l1In_any _ _ _ _).mono ?_; rintro e w' ⟨rfl, rfl⟩)
    go_ret
    exact ⟨ret_bool (by simp only [opB, opK, *] <;> rfl), belowOne _ _⟩
  rcases h_fam : inB o.fam 0 9
  · go_enter Tryz.func34, Tryz.ntmps34
    go_wp2_with (go_at_call 43; refine (l1In_any _ _ _ _).mono ?_; rintro e w' ⟨rfl, rfl⟩)
    go_ret
    exact ⟨ret_bool (by simp only [opB, opK, *] <;> rfl), belowOne _ _⟩
  rcases h_gen : inB o.gen 0 99
  · go_enter Tryz.func34, Tryz.ntmps34
    go_wp2_with (go_at_call 43; refine (l1In_any _ _ _ _).mono ?_; rintro e w' ⟨rfl, rfl⟩)
    go_ret
    exact ⟨ret_bool (by simp only [opB, opK, *] <;> rfl), belowOne _ _⟩
  rcases k1 : (o.kind == 1)
  rotate_left
  ·
    rcases z_code : (o.code == 0)
    · go_enter Tryz.func34, Tryz.ntmps34
      go_wp2_with (go_at_call 43; refine (l1In_any _ _ _ _).mono ?_; rintro e w' ⟨rfl, rfl⟩)
      go_ret
      exact ⟨ret_bool (by simp only [opB, opK, *] <;> rfl), belowOne _ _⟩
    rcases z_sec : (o.sec == 0)
    · go_enter Tryz.func34, Tryz.ntmps34
      go_wp2_with (go_at_call 43; refine (l1In_any _ _ _ _).mono ?_; rintro e w' ⟨rfl, rfl⟩)
      go_ret
      exact ⟨ret_bool (by simp only [opB, opK, *] <;> rfl), belowOne _ _⟩
    rcases z_fam : (o.fam == 0)
    · go_enter Tryz.func34, Tryz.ntmps34
      go_wp2_with (go_at_call 43; refine (l1In_any _ _ _ _).mono ?_; rintro e w' ⟨rfl, rfl⟩)
      go_ret
      exact ⟨ret_bool (by simp only [opB, opK, *] <;> rfl), belowOne _ _⟩
    rcases z_gen : (o.gen == 0)
    · go_enter Tryz.func34, Tryz.ntmps34
      go_wp2_with (go_at_call 43; refine (l1In_any _ _ _ _).mono ?_; rintro e w' ⟨rfl, rfl⟩)
      go_ret
      exact ⟨ret_bool (by simp only [opB, opK, *] <;> rfl), belowOne _ _⟩
    go_enter Tryz.func34, Tryz.ntmps34
    go_wp2_with (go_at_call 43; refine (l1In_any _ _ _ _).mono ?_; rintro e w' ⟨rfl, rfl⟩)
    go_ret
    exact ⟨ret_bool (by simp only [opB, opK, *] <;> rfl), belowOne _ _⟩
  rcases k5 : (o.kind == 5)
  rotate_left
  ·
    rcases z_code : (o.code == 0)
    · go_enter Tryz.func34, Tryz.ntmps34
      go_wp2_with (go_at_call 43; refine (l1In_any _ _ _ _).mono ?_; rintro e w' ⟨rfl, rfl⟩)
      go_ret
      exact ⟨ret_bool (by simp only [opB, opK, *] <;> rfl), belowOne _ _⟩
    rcases z_sec : (o.sec == 0)
    · go_enter Tryz.func34, Tryz.ntmps34
      go_wp2_with (go_at_call 43; refine (l1In_any _ _ _ _).mono ?_; rintro e w' ⟨rfl, rfl⟩)
      go_ret
      exact ⟨ret_bool (by simp only [opB, opK, *] <;> rfl), belowOne _ _⟩
    rcases z_fam : (o.fam == 0)
    · go_enter Tryz.func34, Tryz.ntmps34
      go_wp2_with (go_at_call 43; refine (l1In_any _ _ _ _).mono ?_; rintro e w' ⟨rfl, rfl⟩)
      go_ret
      exact ⟨ret_bool (by simp only [opB, opK, *] <;> rfl), belowOne _ _⟩
    rcases z_gen : (o.gen == 0)
    · go_enter Tryz.func34, Tryz.ntmps34
      go_wp2_with (go_at_call 43; refine (l1In_any _ _ _ _).mono ?_; rintro e w' ⟨rfl, rfl⟩)
      go_ret
      exact ⟨ret_bool (by simp only [opB, opK, *] <;> rfl), belowOne _ _⟩
    go_enter Tryz.func34, Tryz.ntmps34
    go_wp2_with (go_at_call 43; refine (l1In_any _ _ _ _).mono ?_; rintro e w' ⟨rfl, rfl⟩)
    go_ret
    exact ⟨ret_bool (by simp only [opB, opK, *] <;> rfl), belowOne _ _⟩
  rcases k2 : (o.kind == 2)
  rotate_left
  ·
    rcases z_fam : (o.fam == 0)
    · go_enter Tryz.func34, Tryz.ntmps34
      go_wp2_with (go_at_call 43; refine (l1In_any _ _ _ _).mono ?_; rintro e w' ⟨rfl, rfl⟩)
      go_ret
      exact ⟨ret_bool (by simp only [opB, opK, *] <;> rfl), belowOne _ _⟩
    rcases z_gen : (o.gen == 0)
    · go_enter Tryz.func34, Tryz.ntmps34
      go_wp2_with (go_at_call 43; refine (l1In_any _ _ _ _).mono ?_; rintro e w' ⟨rfl, rfl⟩)
      go_ret
      exact ⟨ret_bool (by simp only [opB, opK, *] <;> rfl), belowOne _ _⟩
    go_enter Tryz.func34, Tryz.ntmps34
    go_wp2_with (go_at_call 43; refine (l1In_any _ _ _ _).mono ?_; rintro e w' ⟨rfl, rfl⟩)
    go_ret
    exact ⟨ret_bool (by simp only [opB, opK, *] <;> rfl), belowOne _ _⟩
  rcases k3 : (o.kind == 3)
  rotate_left
  ·
    rcases z_who : (o.who == 0)
    · go_enter Tryz.func34, Tryz.ntmps34
      go_wp2_with (go_at_call 43; refine (l1In_any _ _ _ _).mono ?_; rintro e w' ⟨rfl, rfl⟩)
      go_ret
      exact ⟨ret_bool (by simp only [opB, opK, *] <;> rfl), belowOne _ _⟩
    rcases z_inn : (o.inn == 0)
    · go_enter Tryz.func34, Tryz.ntmps34
      go_wp2_with (go_at_call 43; refine (l1In_any _ _ _ _).mono ?_; rintro e w' ⟨rfl, rfl⟩)
      go_ret
      exact ⟨ret_bool (by simp only [opB, opK, *] <;> rfl), belowOne _ _⟩
    rcases z_gen : (o.gen == 0)
    · go_enter Tryz.func34, Tryz.ntmps34
      go_wp2_with (go_at_call 43; refine (l1In_any _ _ _ _).mono ?_; rintro e w' ⟨rfl, rfl⟩)
      go_ret
      exact ⟨ret_bool (by simp only [opB, opK, *] <;> rfl), belowOne _ _⟩
    go_enter Tryz.func34, Tryz.ntmps34
    go_wp2_with (go_at_call 43; refine (l1In_any _ _ _ _).mono ?_; rintro e w' ⟨rfl, rfl⟩)
    go_ret
    exact ⟨ret_bool (by simp only [opB, opK, *] <;> rfl), belowOne _ _⟩
  rcases k4 : (o.kind == 4)
  rotate_left
  ·
    rcases z_who : (o.who == 0)
    · go_enter Tryz.func34, Tryz.ntmps34
      go_wp2_with (go_at_call 43; refine (l1In_any _ _ _ _).mono ?_; rintro e w' ⟨rfl, rfl⟩)
      go_ret
      exact ⟨ret_bool (by simp only [opB, opK, *] <;> rfl), belowOne _ _⟩
    rcases z_inn : (o.inn == 0)
    · go_enter Tryz.func34, Tryz.ntmps34
      go_wp2_with (go_at_call 43; refine (l1In_any _ _ _ _).mono ?_; rintro e w' ⟨rfl, rfl⟩)
      go_ret
      exact ⟨ret_bool (by simp only [opB, opK, *] <;> rfl), belowOne _ _⟩
    rcases z_code : (o.code == 0)
    · go_enter Tryz.func34, Tryz.ntmps34
      go_wp2_with (go_at_call 43; refine (l1In_any _ _ _ _).mono ?_; rintro e w' ⟨rfl, rfl⟩)
      go_ret
      exact ⟨ret_bool (by simp only [opB, opK, *] <;> rfl), belowOne _ _⟩
    rcases z_sec : (o.sec == 0)
    · go_enter Tryz.func34, Tryz.ntmps34
      go_wp2_with (go_at_call 43; refine (l1In_any _ _ _ _).mono ?_; rintro e w' ⟨rfl, rfl⟩)
      go_ret
      exact ⟨ret_bool (by simp only [opB, opK, *] <;> rfl), belowOne _ _⟩
    go_enter Tryz.func34, Tryz.ntmps34
    go_wp2_with (go_at_call 43; refine (l1In_any _ _ _ _).mono ?_; rintro e w' ⟨rfl, rfl⟩)
    go_ret
    exact ⟨ret_bool (by simp only [opB, opK, *] <;> rfl), belowOne _ _⟩
  go_enter Tryz.func34, Tryz.ntmps34
  go_wp2_with (go_at_call 43; refine (l1In_any _ _ _ _).mono ?_; rintro e w' ⟨rfl, rfl⟩)
  go_ret
  exact ⟨ret_bool (by simp only [opB, opK, *] <;> rfl), belowOne _ _⟩

end Go.Proofs.YtmbkhohgciakfaaGreat

/- From the reading of something that is done that came in. -/
namespace Go.Proofs.YtmbkhohgciakfaaGreat
open Go.ChangeShapes Go.WideShapes Go.ChangeAt Go.RowKit Go.Joins

theorem list7 {α : Type} {l : List α} (h : l.length = 7) : ∃ a b c d e f g, l = [a, b, c, d, e, f, g] := by
  match l, h with
  | [a, b, c, d, e, f, g], _ => exact ⟨a, b, c, d, e, f, g, rfl⟩
theorem trod_struct7 {P : Program} {H : Type} {enc : TypeId × Value → H} {w : World} {base : Nat} {spare : Nat → Bool} {held : Bool} {t : TypeId} {f0 f1 f2 f3 f4 f5 f6 : Field} {fuel : Nat} {cs : List Value} {x : DataW H × List MemPlace} (ht : P.underlying t = some (.struct #[f0, f1, f2, f3, f4, f5, f6])) (h : DataW.trod enc P w base spare held fuel t cs = some x) :
    ∃ y0 y1 y2 y3 y4 y5 y6 n, cs.length = P.cellsOf t ∧ DataW.trod enc P w base spare held n f0.type ((cs.drop f0.offset).take (P.cellsOf f0.type)) = some y0 ∧ DataW.trod enc P w base spare held n f1.type ((cs.drop f1.offset).take (P.cellsOf f1.type)) = some y1 ∧ DataW.trod enc P w base spare held n f2.type ((cs.drop f2.offset).take (P.cellsOf f2.type)) = some y2 ∧ DataW.trod enc P w base spare held n f3.type ((cs.drop f3.offset).take (P.cellsOf f3.type)) = some y3 ∧ DataW.trod enc P w base spare held n f4.type ((cs.drop f4.offset).take (P.cellsOf f4.type)) = some y4 ∧ DataW.trod enc P w base spare held n f5.type ((cs.drop f5.offset).take (P.cellsOf f5.type)) = some y5 ∧ DataW.trod enc P w base spare held n f6.type ((cs.drop f6.offset).take (P.cellsOf f6.type)) = some y6 := by
  obtain ⟨xs, n, _, rfl, hl, hlen, hf⟩ := DataW.trod_struct ht h
  match xs, hlen with
  | [y0, y1, y2, y3, y4, y5, y6], _ => exact ⟨y0, y1, y2, y3, y4, y5, y6, n, hl, by simpa using hf 0 f0 rfl, by simpa using hf 1 f1 rfl, by simpa using hf 2 f2 rfl, by simpa using hf 3 f3 rfl, by simpa using hf 4 f4 rfl, by simpa using hf 5 f5 rfl, by simpa using hf 6 f6 rfl⟩
theorem cellsOp : Tryz.prog.cellsOf 26 = 7 := by kernel_rfl

section
variable {H : Type} {enc : TypeId × Value → H} {W : World}
set_option maxRecDepth 100000 in
theorem opCells {fuel : Nat} {cs : List Value} {y : DataW H × List MemPlace} (h : DataW.trod enc Tryz.prog W 0 (fun _ => true) true fuel 26 cs = some y) :
    ∃ o : Op, cs = [.int .i64 o.kind, .int .i64 o.who, .int .i64 o.inn, .int .i64 o.code, .int .i64 o.sec, .int .i64 o.fam, .int .i64 o.gen] := by
  obtain ⟨y0, y1, y2, y3, y4, y5, y6, n, hl, e0, e1, e2, e3, e4, e5, e6⟩ := trod_struct7 Tryz.underlying26 h
  obtain ⟨a, b, c, d, e, f, g, rfl⟩ := list7 (hl.trans cellsOp)
  simp only [cellsInt] at e0 e1 e2 e3 e4 e5 e6
  obtain ⟨n0, q0, _⟩ := DataW.trod_int Tryz.underlying3 e0
  obtain ⟨n1, q1, _⟩ := DataW.trod_int Tryz.underlying3 e1
  obtain ⟨n2, q2, _⟩ := DataW.trod_int Tryz.underlying3 e2
  obtain ⟨n3, q3, _⟩ := DataW.trod_int Tryz.underlying3 e3
  obtain ⟨n4, q4, _⟩ := DataW.trod_int Tryz.underlying3 e4
  obtain ⟨n5, q5, _⟩ := DataW.trod_int Tryz.underlying3 e5
  obtain ⟨n6, q6, _⟩ := DataW.trod_int Tryz.underlying3 e6
  simp at q0 q1 q2 q3 q4 q5 q6
  subst q0 q1 q2 q3 q4 q5 q6
  exact ⟨⟨n0, n1, n2, n3, n4, n5, n6⟩, rfl⟩
set_option maxRecDepth 100000 in
theorem opArg {b0 : Nat} {v : Value} {d : DataW H} {p : List MemPlace} (hv : Value.okWide Tryz.prog W .any b0 26 v) (h : DataW.Trod enc Tryz.prog W 0 (fun _ => true) true 26 v d p) : ∃ o : Op, v = opV o := by
  obtain ⟨cs, rfl, hsz⟩ := okWide_struct Tryz.underlying26 hv
  obtain ⟨fuel, hf⟩ := h
  obtain ⟨l⟩ := cs
  obtain ⟨o, ho⟩ := opCells hf
  simp [Value.cells] at ho
  exact ⟨o, by rw [ho]⟩
end

end Go.Proofs.YtmbkhohgciakfaaGreat
