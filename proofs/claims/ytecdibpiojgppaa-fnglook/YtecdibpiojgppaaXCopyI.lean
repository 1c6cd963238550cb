/- Texts that follow each other, merged: CopyI, ShapesSto, CopyS, SGlo1. -/
import Derived.Test.YtecdibpiojgppaaXWrts
import Derived.Test.YtecdibpiojgppaaXExItems
import Derived.Test.YtecdibpiojgppaaXHStr
import Derived.Deep.RegionHeld3
import Derived.Test.YtecdibpiojgppaaXCopy
import Derived.Test.YtecdibpiojgppaaXWrite

/- The program's copy of things. -/
namespace Go.Proofs.Ytecdibpiojgppaa
open Go.RowKit

theorem Sh.Own.blk {α : Type} {A : Sh α} {e : TypeId} {w : World} {S : Nat → Prop} {v : Value} {xs : List α} (h : A.Own e w S v xs) : ∀ g, v.ownBlock = some g → S g := by
  obtain ⟨_, _, _, h2, _⟩ := h
  exact h2
theorem allocSize (w : World) (x : Obj) : (w.alloc x).heap.size = w.heap.size + 1 := by simp
end Go.Proofs.Ytecdibpiojgppaa

/- The shape of what a place keeps, and of what some places keep. -/
namespace Go.Proofs.Ytecdibpiojgppaa
open Go.RowKit

/-- What a place keeps. -/
structure Sto where
  items : List Item
def stoSh : Sh Sto := itsSh.conv (fun x => x.items) (fun p => ⟨p⟩) rfl
abbrev stosSh : Sh (List Sto) := stoSh.sl 30 (by decide)
section
variable {w : World} {B : Nat} {S : Nat → Prop} {v : Value}
theorem sto_rel {cs : List Value} {x : Sto} : stoSh.rel w B cs x ↔ ∃ u, cs = [u] ∧ itSh.Row w B u x.items := Iff.rfl
theorem sto_own {cs : List Value} {x : Sto} : stoSh.own w S cs x ↔ ∃ u, cs = [u] ∧ itSh.Own 102 w S u x.items := Iff.rfl
/-- What one of some places keeps. -/
theorem stos_at {xs : List Sto} (h : stoSh.Row w B v xs) {k : Nat} (hk : k < xs.length) : ∃ b off c x u, v = .slice (some ⟨b, off, none⟩) xs.length c ∧ xs[k]? = some x ∧ b < B ∧ w.cell? ⟨b, off + k, none⟩ = some u ∧ itSh.Row w B u x.items := by
  obtain ⟨b, off, c, x, cs, hv, hx, hb, ⟨u, rfl, hu⟩, hc⟩ := h.at_ hk
  have := hc 0 _ rfl
  have hwd : stoSh.wd = 1 := rfl
  rw [hwd] at this
  exact ⟨b, off, c, x, u, hv, hx, hb, by simpa using this, hu⟩
end

end Go.Proofs.Ytecdibpiojgppaa

/- The program's copy of what some places keep. -/
namespace Go.Proofs.Ytecdibpiojgppaa
open Go.RowKit

end Go.Proofs.Ytecdibpiojgppaa

/- What some places keep, loosely: the row is owned, what each keeps lies in blocks of some set. The model's copy of it. -/
namespace Go.Proofs.Ytecdibpiojgppaa
open Go.RowKit

theorem lt_of_block {w w' : World} {b : Nat} (h : w'.heap[b]? = w.heap[b]?) (hb : b < w.heap.size) : b < w'.heap.size := by
  rw [Array.getElem?_eq_getElem hb] at h
  exact (Array.getElem?_eq_some_iff.1 h).1
theorem IntsIn.keep2 {w w' : World} {S S' : Nat → Prop} {v : Value} {xs : List Int} (h : IntsIn w S v xs) (hk : ∀ b, S b → b < w.heap.size → w'.heap[b]? = w.heap[b]?) (hS : ∀ b, b < w.heap.size → S b → S' b) : IntsIn w' S' v xs := by
  obtain ⟨A, c, hv, h1, h2, hr⟩ := h
  refine ⟨A, c, hv, h1, h2, fun hn => ?_⟩
  obtain ⟨b, off, hA, hb, hSb, hc⟩ := hr hn
  exact ⟨b, off, hA, lt_of_block (hk b hSb hb) hb, hS b hb hSb, fun j hj => (World.cell?_of_block (hk b hSb hb)).trans (hc j hj)⟩
theorem ItemsIn.keep2 {w w' : World} {S S' : Nat → Prop} {v : Value} {its : List Item} (h : ItemsIn w S v its) (hk : ∀ b, S b → b < w.heap.size → w'.heap[b]? = w.heap[b]?) (hS : ∀ b, b < w.heap.size → S b → S' b) : ItemsIn w' S' v its := by
  obtain ⟨A, c, hv, h1, h2, hr⟩ := h
  refine ⟨A, c, hv, h1, h2, fun hn => ?_⟩
  obtain ⟨b, off, hA, hb, hSb, hc⟩ := hr hn
  refine ⟨b, off, hA, lt_of_block (hk b hSb hb) hb, hS b hb hSb, fun j it hit => ?_⟩
  obtain ⟨hks, c1, u, c2, hu⟩ := hc j it hit
  exact ⟨hks, (World.cell?_of_block (hk b hSb hb)).trans c1, u, (World.cell?_of_block (hk b hSb hb)).trans c2, hu.keep2 hk hS⟩
theorem ItemsIn.nil (w : World) (S : Nat → Prop) : ItemsIn w S (.slice none 0 0) [] := ⟨none, 0, rfl, Nat.zero_le _, Nat.zero_le _, fun h => absurd h (by simp)⟩
/-- What a place keeps, in blocks of some set; no two parts need lie apart. -/
def lstoSh : Sh Sto where
  wd := stoSh.wd
  zc := stoSh.zc
  z := stoSh.z
  base := stoSh.base
  rel := stoSh.rel
  own w S cs x := ∃ u, cs = [u] ∧ ItemsIn w S u x.items
  wt := stoSh.wt
  cnt := stoSh.cnt
  mkd := stoSh.mkd
  zlen := stoSh.zlen
  rlen h := stoSh.rlen h
  rone h := stoSh.rone h
  rkeep h k := stoSh.rkeep h k
  rmore h k := stoSh.rmore h k
  omono := by rintro w S S' cs x ⟨u, rfl, h⟩ hS; exact ⟨u, rfl, h.keep2 (fun _ _ _ => rfl) fun b _ hb => hS b hb⟩
  okeep := by rintro w w' S cs x ⟨u, rfl, h⟩ hk; exact ⟨u, rfl, h.keep2 hk fun _ _ h => h⟩
  orel := by rintro w S cs x ⟨u, rfl, h⟩; exact sto_rel.2 ⟨u, rfl, items_row.2 h.items⟩
  ozero w S := ⟨_, rfl, ItemsIn.nil w S⟩
  ocap := by rintro w S cs x ⟨u, rfl, h⟩; exact ⟨u, rfl, h.keep2 (fun _ _ _ => rfl) fun b hb h => ⟨h, hb⟩⟩
  cntLe := stoSh.cntLe
theorem lsto_own {w : World} {S : Nat → Prop} {cs : List Value} {x : Sto} : lstoSh.own w S cs x ↔ ∃ u, cs = [u] ∧ ItemsIn w S u x.items := Iff.rfl
theorem lsto_row {w : World} {B : Nat} {v : Value} {xs : List Sto} : lstoSh.Row w B v xs ↔ stoSh.Row w B v xs := Iff.rfl
theorem infoLsto : (Try.prog.info? 30).map (fun i => (i.zero, i.size, i.bytes)) = some (some (.agg #[.slice none 0 0]), lstoSh.wd, 24) := by kernel_rfl

/-- One thing more in a row, for the walk. -/
theorem wpl_append_any {α : Type} (Q0 : Sh α) (t e : TypeId) (z : Value) (bytes : Nat) (ht : Try.prog.underlying t = some (.slice e)) (hinfo : (Try.prog.info? e).map (fun i => (i.zero, i.size, i.bytes)) = some (some z, Q0.wd, bytes)) (hzs : z.cells.size = Q0.wd) (hsz : 0 < Q0.wd) (hbl : bytes ≤ 65536)
    {w : World} {ops : Array Oper} {rest : List Oper} {o : Oper} {a : Act} {Q : Exit → Act → World → Prop} (hgd : o.guard = none) (s x : Operand)
    (ho : o.op = .call { callee := .builtin .append, args := #[s, x], argTypes := #[t, t] }) (S S' : Nat → Prop) (v : Value) (xs : List α) (hs : a.eval s = v) (hv : Q0.Own e w S v xs)
    (B : Nat) (hx : a.eval x = .slice (some ⟨B, 0, none⟩) 1 1) (cs : List Value) (y : α) (hy : Q0.own w S' cs y) (hsrc : Held w B cs) (hdis : ∀ b, S b → ¬ S' b) (hl : xs.length ≤ 1048576)
    (h : ∀ v' w', Q0.Own e w' (fun b => S b ∨ S' b ∨ b = w.heap.size) v' (xs ++ [y]) → w.grownBy w' v.ownBlock → (v'.ownBlock = v.ownBlock ∨ v'.ownBlock = some w.heap.size) → wpList Try.prog ops Q rest (a.put o.dst v') w') : wpList Try.prog ops Q (o :: rest) a w := by
  refine wpList_plain hgd fun K hK => ?_
  obtain ⟨i, hi, hz, hsi, hb⟩ := info_parts hinfo
  obtain ⟨v', w', hr, h2, h3, h4⟩ := Sh.append_one (P := Try.prog) (A := Q0) i z bytes ht hi hz hsi hb hzs hsz hv B cs y hy hsrc hdis o.type hl hbl
  unfold Oper.wp execOp
  simp only [ho, resolve, invoke, builtin, Sem.run_bind, Sem.run_pure, Result.andThen_ok, List.map_toArray, List.map_cons, List.map_nil, hs, hx, hr]
  exact hK _ _ (h v' w' h2 h3 h4)

set_option maxRecDepth 100000 in
set_option maxHeartbeats 2000000 in
theorem l4Copy_any (w : World) (v : Value) (xs : List Sto) (hv : stoSh.Row w w.heap.size v xs) (hl : xs.length ≤ 1000000) (hsh : ∀ x ∈ xs, x.items.length ≤ 1000000 ∧ Short x.items x.items.length) :
    Calls Try.prog 163 #[v] w (CopiedSl lstoSh 30 xs w) := by
  obtain ⟨A, c, rfl, hc2, hc1⟩ := hv.form
  unfold maxLen at hc2
  have HM := Lib.hid (show lstoSh.Own 30 (w.alloc (.cells #[] 30)) (fun b => b = w.heap.size) (.slice (some ⟨w.heap.size, 0, none⟩) 0 0) [] from Sh.Own.lit0 lstoSh 30 w)
  have HW := Lib.hid (belowOne w (.cells #[] 30))
  go_enter Try.func163, Try.ntmps163
  go_wp2
  go_loopw [3, 4] (fun l i wr => ∃ (k : Nat) (Al : Option Addr) (cl : Nat), k ≤ xs.length ∧ i = .int .i64 k ∧ l = .slice Al k cl ∧ lstoSh.Own 30 wr (fun b => w.heap.size ≤ b ∧ b < wr.heap.size) (.slice Al k cl) (xs.take k) ∧ Below w.heap.size w wr) (fun _ i _ => xs.length - (intOf i).toNat)
  case atStart => exact ⟨0, _, _, Nat.zero_le _, rfl, rfl, HM.out.mono fun b hb => ⟨by omega, by simp; omega⟩, HW.out⟩
  case round =>
    clear HM HW
    obtain ⟨k, Al, cl, hk, rfl, rfl, ho, hb⟩ := hrel
    by_cases hlt : k < xs.length
    · obtain ⟨b, off, c', x, u, e1, hx, hB, cu, hu⟩ := stos_at (hv.below hb) (k := k) hlt
      obtain ⟨A', c'', hu', -, -⟩ := hu.form
      subst hu'
      injection e1 with e1a e1b e1c
      subst e1a
      obtain ⟨hxl, hxs⟩ := hsh x (List.mem_of_getElem? hx)
      have htl : (xs.take k).length ≤ 1048576 := by rw [List.length_take]; omega
      have HO := Lib.hid ho
      have HB := Lib.hid hb
      have HU := Lib.hid (items_row.1 (hu.more (B' := wr.heap.size) hb.size))
      have HI := Lib.hid hx
      have HSh := Lib.hid hxs
      have hzr := hb.size
      clear e1b e1c hv hu hx hb ho hsh hxs
      go_wp2_with fail
      refine (l1Copy_any _ _ x.items HU.out HSh.out (by omega)).mono ?_
      rintro e w1 ⟨u1, rfl, hu1, hb1⟩
      obtain ⟨A1, n1, c1, hf1⟩ := ownSlice hu1
      subst hf1
      have hz1 := hb1.size
      have HO2 := Lib.hid ((HO.out.below hb1).below (belowOne w1 (.cells #[.slice A1 n1 c1] 30)))
      have HB2 := Lib.hid ((HB.out.trans (hb1.mono HB.out.size)).alloc (by omega) (.cells #[.slice A1 n1 c1] 30))
      have HU2 := Lib.hid ((hu1.toIn (S' := fun b => wr.heap.size ≤ b) (fun _ h => h) (fun _ h => h)).keep2 (w' := w1.alloc (.cells #[.slice A1 n1 c1] 30)) (S' := fun b => wr.heap.size ≤ b ∧ b < w1.heap.size) (fun b _ hlt => (belowOne w1 _).block b hlt) (fun b hlt h => ⟨h, hlt⟩))
      clear hu1 hb1 HO HB HU
      go_wp2_with (at_builtin; refine wpl_append_any lstoSh 23 30 _ 24 Try.underlying23 infoLsto rfl (by decide) (by omega) rfl _ _ rfl _ _ _ (xs.take k) rfl HO2.out w1.heap.size rfl [.slice A1 n1 c1] x (lsto_own.2 ⟨_, rfl, HU2.out⟩) (Held.new w1 #[.slice A1 n1 c1] _) (fun b hb hb2 => by have := hb.2; have := hb2.1; omega) htl ?_; intro v3 w3 ho3 hg3 _; have HO3 := Lib.hid ho3; have HG3 := Lib.hid hg3; clear ho3 hg3)
      have HB3 := Lib.hid (HB2.out.grown HG3.out (by rw [allocSize]; omega) (fun q hq => (HO2.out.blk q hq).1))
      have hz3 := HG3.out.size
      rw [allocSize] at hz3
      have HF := Lib.hid (Sh.Own.mono (S' := fun b => w.heap.size ≤ b ∧ b < w3.heap.size) HO3.out.cap (fun b hb => by
        refine ⟨?_, hb.2⟩
        rcases hb.1 with hb | hb | hb
        · exact hb.1
        · have := hb.1; omega
        · rw [hb, allocSize]; omega))
      rw [← take_snoc HI.out] at HF
      obtain ⟨A3, c3, hf3, -, -⟩ := HF.out.row.form
      rw [List.length_take, Nat.min_eq_left (show k + 1 ≤ xs.length by omega)] at hf3
      subst hf3
      clear HO3 HG3 HO2 HU2
      go_wp2
      go_roundw
      case rel => exact ⟨k + 1, A3, c3, by omega, by go_num, rfl, HF.out, HB3.out⟩
      case measure => simp [intOf]; omega
    · have HO : Hid (lstoSh.Own 30 wr (fun b => w.heap.size ≤ b ∧ b < wr.heap.size) (.slice Al k cl) xs) := Lib.hid (by have h := ho; rwa [show xs.take k = xs from List.take_of_length_le (by omega)] at h)
      clear hv ho
      go_wp2
      go_ret
      exact ⟨_, rfl, HO.out, hb⟩

end Go.Proofs.Ytecdibpiojgppaa
