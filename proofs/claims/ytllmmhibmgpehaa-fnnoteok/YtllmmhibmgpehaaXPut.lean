/- Texts that follow each other, merged: Put, RegTake. -/
import Derived.Test.YtllmmhibmgpehaaXDel
import Derived.Test.YtllmmhibmgpehaaXWrts
import Derived.Test.YtllmmhibmgpehaaXCmp
import Derived.Test.YtllmmhibmgpehaaXMark
import Derived.Deep.RegionHeld3

/- The program's put and drop of what rises, its copy of things, its look at writes. -/
namespace Go.Proofs.Ytllmmhibmgpehaa
open Go.RowKit

/-- What a write into what rises leaves: its own, in the blocks that it had, in those of the thing, or in new ones. -/
def Wrote (S : Nat → Prop) (v : Value) (xs : List Item) (w : World) (e : Ending) (w' : World) : Prop :=
  ∃ v', e = .returned v' ∧ itSh.Own 140 w' (fun b => S b ∨ w.heap.size ≤ b) v' xs ∧ w.grownBy w' v.ownBlock

set_option maxRecDepth 100000 in
set_option maxHeartbeats 1000000 in
theorem drop_any (w : World) (S : Nat → Prop) (v : Value) (its : List Item) (hv : itSh.Own 140 w S v its) (hl : its.length ≤ 1048576) (hr : Rise its its.length) (key : ByteArray) (wv : List Int) :
    Calls Try.prog 125 #[v, .string key] w (Wrote S v (wAll key true wv its) w) := by
  obtain ⟨A, c, rfl, hc2, hc1⟩ := hv.row.form
  have HV := Lib.hid hv
  have HR := Lib.hid hr
  clear hv hr
  go_enter Try.func125, Try.ntmps125
  go_wp2_with fail
  refine (find_any _ _ its key (items_row.1 HV.out.row) hl HR.out).mono ?_
  rintro e w1 ⟨i, hi, hlo, hhi, rfl, hb⟩
  have HO := Lib.hid (HV.out.below hb)
  have HB := Lib.hid hb
  clear HV hb
  cases hh : hitB its key i with
  | false =>
    have HE := Lib.hid (wAll_drop_miss (wv := wv) hlo hhi HR.out hh hi)
    clear hlo hhi hh
    go_wp2
    go_ret
    exact ⟨_, rfl, by rw [HE.out]; exact HO.out.mono fun b hb => .inl hb, ⟨HB.out.os, HB.out.tape, HB.out.output, HB.out.size, fun k hk _ => HB.out.block k hk⟩⟩
  | true =>
    have hlt := (show i < its.length from by
      by_cases h : i < its.length
      · exact h
      · rw [hitB_end (by omega)] at hh; exact absurd hh (by decide))
    have HE := Lib.hid (wAll_drop (wv := wv) hlo hhi HR.out hh)
    clear hlo hhi hh
    have hw1 : IntKind.i64.wrap ((i : Int) + 1) = (i : Int) + 1 := by rw [IntKind.wrap_i64]; omega
    go_wp2_with fail
    refine (delete_any _ _ _ its HO.out hl i hlt).mono ?_
    rintro e w2 ⟨v', rfl, ho, hg⟩
    have HO2 := Lib.hid ho
    have HG2 := Lib.hid hg
    clear ho hg
    go_wp2
    go_ret
    refine ⟨_, rfl, by rw [HE.out]; exact HO2.out.mono fun b hb => hb.elim .inl fun h => .inr (Nat.le_trans HB.out.size h), ?_⟩
    exact ⟨HG2.out.os.trans HB.out.os, HG2.out.tape.trans HB.out.tape, HG2.out.output.trans HB.out.output, Nat.le_trans HB.out.size HG2.out.size, fun k hk hne => (HG2.out.block k (Nat.lt_of_lt_of_le hk HB.out.size) hne).trans (HB.out.block k hk)⟩

theorem below_grown {w w' : World} (h : Below w.heap.size w w') (row : Option Nat) : w.grownBy w' row := ⟨h.os, h.tape, h.output, h.size, fun k hk _ => h.block k hk⟩
set_option maxRecDepth 100000 in
set_option maxHeartbeats 1000000 in
theorem put_any (w : World) (S S' : Nat → Prop) (v : Value) (its : List Item) (hv : itSh.Own 140 w S v its) (hl : its.length ≤ 1048576) (hr : Rise its its.length) (it : Item) (u : Value) (hit : itSh.own w S' [.string it.key, u] it) (hS : ∀ b, S b → b < w.heap.size) (hdis : ∀ b, S b → ¬ S' b) :
    Calls Try.prog 126 #[v, .agg #[.string it.key, u]] w (Wrote (fun b => S b ∨ S' b) v (wAll it.key false it.val its) w) := by
  obtain ⟨A, c, rfl, hc2, hc1⟩ := hv.row.form
  obtain ⟨u', hu', hks, hou⟩ := it_own.1 hit
  obtain rfl : u' = u := by simpa using hu'.symm
  obtain ⟨Au, cu, rfl, -, -⟩ := hou.row.form
  unfold maxLen at hks
  have m1 := method_sortKey
  have HB0 := Lib.hid (belowOne w (.cells #[.string it.key, .slice Au it.val.length cu] 140))
  have HX0 := Lib.hid (Held.new w #[.string it.key, .slice Au it.val.length cu] 140)
  have HV := Lib.hid hv
  have HI := Lib.hid hit
  have HR := Lib.hid hr
  clear hv hr hit hou hu'
  go_enter Try.func126, Try.ntmps126
  go_wp2_with fail
  refine (sortKey_any _ _ _ _ _).mono ?_
  rintro e w0 ⟨rfl, hb0⟩
  replace HX0 := Lib.hid (HX0.out.below hb0 HX0.out.1)
  replace HB0 := Lib.hid (belowNext HB0.out hb0)
  clear hb0
  go_wp2_with fail
  refine (find_any _ _ its it.key ((items_row.1 (HV.out.row.below HB0.out)).more HB0.out.size) hl HR.out).mono ?_
  rintro e w1 ⟨i, hi, hlo, hhi, rfl, hb⟩
  have HX := Lib.hid (HX0.out.below hb HX0.out.1)
  have HB := Lib.hid (belowNext HB0.out hb)
  have HO := Lib.hid (HV.out.below HB.out)
  have HIt := Lib.hid (itSh.okeep HI.out fun b _ hlt => HB.out.block b hlt)
  have hz1 : w.heap.size < w1.heap.size := HX.out.1
  clear HX0 HB0 hb
  have x0 := HX.out.of 0 _ rfl
  have x1 := HX.out.of 1 _ rfl
  cases hh : hitB its it.key i with
  | true =>
    have hlt := (show i < its.length from by
      by_cases h : i < its.length
      · exact h
      · rw [hitB_end (by omega)] at hh; exact absurd hh (by decide))
    have HE := Lib.hid (wAll_put (wv := it.val) hlo hhi HR.out hh)
    clear hlo hhi hh
    obtain ⟨g, cap, y, ds, Sj, e2, -, hSg, -, hds, -, hcell, hfr, -, -⟩ := HO.out.at_ (j := i) hlt
    injection e2 with e2a e2b e2c
    subst e2a
    obtain ⟨y1, rfl, -, hy1⟩ := it_rel.1 (itSh.orel hds)
    have r0 : w1.cell? ⟨g, i * 2, none⟩ = some _ := hcell 0 _ rfl
    have r1 : w1.cell? ⟨g, i * 2 + 1, none⟩ = some _ := hcell 1 _ rfl
    have hput := Sh.Own.put HO.out (j := i) (g := g) (cap := c) hlt rfl (w1 := w1) (fun _ _ _ => rfl) HIt.out (fun b hb hb2 => hdis b hb2 hb)
    have HP := Lib.hid hput
    have hgne : g ≠ w.heap.size := by have := hS g hSg; omega
    have hf0 := hfr (i * 2)
    have hf1 := hfr (i * 2 + 1)
    clear hput hds hcell hy1 e2b e2c hfr
    go_wp2
    go_ret
    refine ⟨_, rfl, ?_, ?_⟩
    · rw [HE.out]
      exact Sh.Own.mono HP.out fun b hb => .inl hb
    · have h1 := below_grown HB.out (some g)
      exact ⟨h1.os, h1.tape, h1.output, by simpa [World.setCell] using h1.size, fun k hk hne => by
        rw [Below.heap_setCell _ _ _ _ (fun e => hne (by rw [e]; rfl)), Below.heap_setCell _ _ _ _ (fun e => hne (by rw [e]; rfl))]
        exact h1.block k hk hne⟩
  | false =>
    have HE := Lib.hid (wAll_ins (wv := it.val) hlo hhi HR.out hh hi)
    clear hlo hhi hh
    have HN := Lib.hid (show (w1.alloc (.cells #[.string it.key, .slice Au it.val.length cu] 140)).heap[w1.heap.size]? = some (.cells #[.string it.key, .slice Au it.val.length cu] 140 (0, 0)) from heap_alloc_new w1 _)
    go_wp2_with fail
    refine (insert_any _ S S' _ its (HO.out.below (belowOne _ _)) hl i hi it w1.heap.size _ (itSh.okeep HIt.out fun b _ hlt => (belowOne w1 _).block b hlt) HN.out (fun h => by have := hS _ h; omega) hdis).mono ?_
    rintro e w2 ⟨v', rfl, ho, hg⟩
    have HO2 := Lib.hid ho
    have HG2 := Lib.hid hg
    clear ho hg
    go_wp2
    go_ret
    have hsz : w.heap.size ≤ (w1.alloc (.cells #[.string it.key, .slice Au it.val.length cu] 140)).heap.size := by simp; omega
    refine ⟨_, rfl, by rw [HE.out]; exact HO2.out.mono fun b hb => hb.elim .inl fun h => .inr (Nat.le_trans hsz h), ?_⟩
    have h1 := below_grown (HB.out.alloc (Nat.le_of_lt hz1) (.cells #[.string it.key, .slice Au it.val.length cu] 140)) (Value.slice A its.length c).ownBlock
    exact ⟨HG2.out.os.trans h1.os, HG2.out.tape.trans h1.tape, HG2.out.output.trans h1.output, Nat.le_trans h1.size HG2.out.size, fun k hk hne => (HG2.out.block k (Nat.lt_of_lt_of_le hk h1.size) hne).trans (h1.block k hk hne)⟩

set_option maxRecDepth 100000 in
set_option maxHeartbeats 1000000 in
theorem writesOk_any (w : World) (v : Value) (ws : List Wr) (hv : Wrts w w.heap.size v ws) :
    Calls Try.prog 123 #[v] w fun e w' => e = .returned (.bool (ws.all Wr.ok)) ∧ Below w.heap.size w w' := by
  obtain ⟨A, c, rfl, hc2, hc1⟩ := hv.form
  unfold maxLen at hc2
  go_enter Try.func123, Try.ntmps123
  go_wp2
  go_loopw [7] (fun i wr => ∃ k : Nat, k ≤ ws.length ∧ i = .int .i64 k ∧ (∀ j x, j < k → ws[j]? = some x → x.ok = true) ∧ Below w.heap.size w wr) (fun i _ => ws.length - (intOf i).toNat)
  case atStart => exact ⟨0, Nat.zero_le _, rfl, fun j _ h => absurd h (by omega), Below.refl _ _⟩
  case round =>
    obtain ⟨k, hk, rfl, he, hb⟩ := hrel
    by_cases hlt : k < ws.length
    · obtain ⟨b, off, c', x, u, e1, hx, hB, hs, c0, c1, c2, hu⟩ := (hv.below hb).at_ (k := k) hlt
      obtain ⟨A', c'', hu', _, _⟩ := hu.form
      subst hu'
      injection e1 with e1a e1b e1c
      subst e1a
      have HB := Lib.hid (hb.alloc hb.size (.cells #[.string x.key, .bool x.del, .slice A' x.val.length c''] 33))
      have HU := Lib.hid ((hu.alloc hb.size (.cells #[.string x.key, .bool x.del, .slice A' x.val.length c''] 33)).more (B' := (wr.alloc (.cells #[.string x.key, .bool x.del, .slice A' x.val.length c''] 33)).heap.size) (by have := hb.size; simp; omega))
      have HI := Lib.hid hx
      have HE := Lib.hid he
      clear e1b e1c hv hu hx hb he
      rcases hp : x.ok
      · have HK := Lib.hid (show ws.all Wr.ok = false from List.all_eq_false.2 ⟨x, List.mem_of_getElem? HI.out, by simp [hp]⟩)
        have hp' : wrtB x.key x.del x.val = false := hp
        clear hp
        go_wp2_with fail
        refine (implWrtOk_any _ _ _ _ _ hs HU.out).mono ?_
        rintro e w1 ⟨rfl, hb1⟩
        rw [hp']
        have HB1 := Lib.hid (HB.out.trans (hb1.mono HB.out.size))
        clear hb1
        go_wp2
        go_ret
        exact ⟨ret_bool HK.out.symm, HB1.out⟩
      · have hp' : wrtB x.key x.del x.val = true := hp
        have HF : Hid (∀ j y, j < k + 1 → ws[j]? = some y → y.ok = true) := Lib.hid fun j y hj hy => by
          rcases Nat.lt_or_ge j k with h1 | h1
          · exact HE.out j y h1 hy
          · have : j = k := by omega
            subst this
            rw [HI.out] at hy
            injection hy with hy
            rw [← hy]; exact hp
        clear hp
        go_wp2_with fail
        refine (implWrtOk_any _ _ _ _ _ hs HU.out).mono ?_
        rintro e w1 ⟨rfl, hb1⟩
        rw [hp']
        have HB1 := Lib.hid (HB.out.trans (hb1.mono HB.out.size))
        clear hb1
        go_wp2
        go_roundw
        case rel => exact ⟨k + 1, by omega, by go_num, HF.out, HB1.out⟩
        case measure => simp [intOf]; omega
    · have HK := Lib.hid (show ws.all Wr.ok = true from List.all_eq_true.2 fun x hx => by
        obtain ⟨j, hj, rfl⟩ := List.getElem_of_mem hx
        exact he j _ (by omega) (List.getElem?_eq_getElem hj))
      clear hv
      go_wp2
      go_ret
      exact ⟨ret_bool HK.out.symm, hb⟩

end Go.Proofs.Ytllmmhibmgpehaa

/- A region that draws its order, operation by operation: taken first, or passed over; the slot written out. Nothing of the program. -/
namespace Go.Proofs.Ytllmmhibmgpehaa

section
variable {P : Program} {md : Region.Mode} {ops : Array Oper} {Q : Exit → Act → World → Prop} {S : World → Prop}
/-- Taken first. -/
theorem take_first (i d : Nat) {oi : Oper} {v : Value} {fuel : Nat} {listed : Array Bool} {a : Act} {w : World} (hi : ops[i]? = some oi) (hd : oi.dst = some d)
    (hs : Region.noSelect ops = true) (hf : Region.free md ops listed i = true) (hr : (Region.ready md ops listed).contains i = true)
    (hQ : ∀ c a w, Q (.panic c) (a.put oi.dst v) w → Q (.panic c) a w) (hw : Region.wanted oi (yielded ops a.tmps) = true) (hy : ∀ w, S w → (execOp a.eval oi).run P w = .ok (.value v) w) (hS : S w)
    (h : wpAnyH P md ops Q S fuel (listed.setIfInBounds i true) (a.put (some d) v) w) : wpAnyH P md ops Q S (fuel + 1) listed a w :=
  wpAnyH_take hi hs hf hr hQ (.inl ⟨hw, hy⟩) hS (by rw [hd]; exact h)
/-- Passed over: it is not wanted. -/
theorem pass_over (i d : Nat) {oi : Oper} {fuel : Nat} {listed : Array Bool} {a : Act} {w : World} (hi : ops[i]? = some oi) (hd : oi.dst = some d)
    (hs : Region.noSelect ops = true) (hf : Region.free md ops listed i = true) (hr : (Region.ready md ops listed).contains i = true)
    (hQ : ∀ c a w, Q (.panic c) (a.put oi.dst undef) w → Q (.panic c) a w) (hw : Region.wanted oi (yielded ops a.tmps) = false) (hS : S w)
    (h : wpAnyH P md ops Q S fuel (listed.setIfInBounds i true) (a.put (some d) undef) w) : wpAnyH P md ops Q S (fuel + 1) listed a w :=
  wpAnyH_take hi hs hf hr hQ (.inr ⟨hw, rfl⟩) hS (by rw [hd]; exact h)
end

end Go.Proofs.Ytllmmhibmgpehaa
