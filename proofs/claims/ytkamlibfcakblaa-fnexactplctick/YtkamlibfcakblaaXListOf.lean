/- Texts that follow each other, merged: ListOf, Iter. -/
import Derived.Test.YtkamlibfcakblaaXDiskOk
import Derived.Test.YtkamlibfcakblaaXHStr
import Derived.RangeFuncNested
import Derived.RangeFuncBound
import Derived.RangeFuncCalls
import Derived.RangeFuncLeaves
import Derived.Shelf.Abstract
import Derived.Shelf.RegionOpen
import Derived.OwnWalkIn
import Derived.TacticsInMore
import Derived.LoopNIn
import Derived.LoopIn
import Derived.LaidEqlPtr
import Derived.Lib.Builder

/- What add and listOf leave: a ring. -/
namespace Go.Proofs.Ytkamlibfcakblaa
open Go.RowKit

/-- The blocks of a ring. -/
def InRing (L : List Nat) (q : Nat) : Prop := ∃ i, i < L.length ∧ q = at_ L i

theorem cellSet {V : World} {p : Addr} {u : Value} {q j : Nat} (hne : V.cell? p ≠ none) : (V.setCell p u).cell? ⟨q, j, none⟩ = if q = p.block ∧ j = p.off ∧ p.spot = none then some u else V.cell? ⟨q, j, none⟩ := by
  by_cases e : (⟨q, j, none⟩ : Addr) = p
  · subst e
    rw [World.cell?_setCell_same' _ _ _ (by cases h : V.cell? ⟨q, j, none⟩ with
      | none => exact absurd h hne
      | some _ => rfl)]
    simp
  · rw [World.cell?_setCell_other _ _ _ _ (Ne.symm e), if_neg]
    rintro ⟨h1, h2, h3⟩
    exact e (by cases p; simp at *; exact ⟨h1, h2, h3.symm ▸ rfl⟩)
set_option maxRecDepth 100000 in
set_option maxHeartbeats 1000000 in
theorem add_any (w : World) (B : Nat) (L : List Nat) (ns : List Note) (cs : List Value) (x : Note) (hR : Ring w B L ns) (hx : noteSh.rel w B cs x) :
    Calls Try.prog 69 #[.agg #[ptr (at_ L 0)], .agg cs.toArray] w fun e w' => (∃ v, e = .returned v) ∧ ∃ b, w.heap.size ≤ b ∧ Ring w' B (L ++ [b]) (ns ++ [x]) ∧ Outs (InRing L) w w' := by
  have hl := hR.len
  have h0 : 0 < L.length := by omega
  have hn : ns.length < L.length := by omega
  have m4 := hR.prev 0 h0
  have f4 := hR.free 0 4 h0
  have z0 := hR.lt 0 h0
  have zn := hR.lt ns.length hn
  have l5 := hR.next ns.length hn
  have f5 := hR.free ns.length 5 hn
  simp only [pre_, if_true] at m4
  have HR := Lib.hid hR
  have HX := Lib.hid hx
  obtain ⟨u, v, rfl, hu, hv⟩ := note_rel.1 hx
  obtain ⟨A1, c1, rfl, -, -⟩ := hu.form
  obtain ⟨A2, c2, rfl, -, -⟩ := hv.form
  clear hR hx hu hv hl
  unfold ptr at *
  obtain ⟨m, hm⟩ : ∃ m, at_ L 0 = m := ⟨_, rfl⟩
  obtain ⟨l, hl⟩ : ∃ l, at_ L ns.length = l := ⟨_, rfl⟩
  rw [hm] at f4 z0 ⊢
  rw [hm, hl] at m4
  rw [hl] at f5 zn l5
  have HM := Lib.hid hm
  have HLl := Lib.hid hl
  clear hm hl
  have hB3 := belowThree w (.cells #[.pointer (some ⟨m, 0, none⟩)] 79) (.cells #[.int .i64 x.kind, .int .i64 x.tx, .slice A1 x.locks.length c1, .slice A2 x.writes.length c2] 36) (.cells #[.int .i64 x.kind, .int .i64 x.tx, .slice A1 x.locks.length c1, .slice A2 x.writes.length c2, .pointer (some ⟨l, 0, none⟩), .pointer (some ⟨m, 0, none⟩)] 101)
  have d4 := (hB3.cell (p := ⟨m, 4, none⟩) z0).trans m4
  have g4 := (hB3.frozen (p := ⟨m, 4, none⟩) z0).trans f4
  have d5 := (hB3.cell (p := ⟨l, 5, none⟩) zn).trans l5
  have g5 := (hB3.frozen (p := ⟨l, 5, none⟩) zn).trans f5
  have HL : Hid (Held (((w.alloc (.cells #[.pointer (some ⟨m, 0, none⟩)] 79)).alloc (.cells #[.int .i64 x.kind, .int .i64 x.tx, .slice A1 x.locks.length c1, .slice A2 x.writes.length c2] 36)).alloc (.cells #[.int .i64 x.kind, .int .i64 x.tx, .slice A1 x.locks.length c1, .slice A2 x.writes.length c2, .pointer (some ⟨l, 0, none⟩), .pointer (some ⟨m, 0, none⟩)] 101)) w.heap.size [.pointer (some ⟨m, 0, none⟩)]) := Lib.hid (((Held.new w #[.pointer (some ⟨m, 0, none⟩)] 79).after _).after _)
  have HN : Hid (Held (((w.alloc (.cells #[.pointer (some ⟨m, 0, none⟩)] 79)).alloc (.cells #[.int .i64 x.kind, .int .i64 x.tx, .slice A1 x.locks.length c1, .slice A2 x.writes.length c2] 36)).alloc (.cells #[.int .i64 x.kind, .int .i64 x.tx, .slice A1 x.locks.length c1, .slice A2 x.writes.length c2, .pointer (some ⟨l, 0, none⟩), .pointer (some ⟨m, 0, none⟩)] 101)) (w.heap.size + 1 + 1) [.int .i64 x.kind, .int .i64 x.tx, .slice A1 x.locks.length c1, .slice A2 x.writes.length c2, .pointer (some ⟨l, 0, none⟩), .pointer (some ⟨m, 0, none⟩)]) := Lib.hid ((Held.new ((w.alloc (.cells #[.pointer (some ⟨m, 0, none⟩)] 79)).alloc (.cells #[.int .i64 x.kind, .int .i64 x.tx, .slice A1 x.locks.length c1, .slice A2 x.writes.length c2] 36)) #[.int .i64 x.kind, .int .i64 x.tx, .slice A1 x.locks.length c1, .slice A2 x.writes.length c2, .pointer (some ⟨l, 0, none⟩), .pointer (some ⟨m, 0, none⟩)] 101).lit (by simp))
  have HB3 := Lib.hid hB3
  have HP := Lib.hid (Plain_.third w (.cells #[.pointer (some ⟨m, 0, none⟩)] 79) (.cells #[.int .i64 x.kind, .int .i64 x.tx, .slice A1 x.locks.length c1, .slice A2 x.writes.length c2] 36) #[.int .i64 x.kind, .int .i64 x.tx, .slice A1 x.locks.length c1, .slice A2 x.writes.length c2, .pointer (some ⟨l, 0, none⟩), .pointer (some ⟨m, 0, none⟩)] 101)
  clear hB3
  go_enter Try.func69, Try.ntmps69
  go_wp2
  generalize (((w.alloc (.cells #[.pointer (some ⟨m, 0, none⟩)] 79)).alloc (.cells #[.int .i64 x.kind, .int .i64 x.tx, .slice A1 x.locks.length c1, .slice A2 x.writes.length c2] 36)).alloc (.cells #[.int .i64 x.kind, .int .i64 x.tx, .slice A1 x.locks.length c1, .slice A2 x.writes.length c2, .pointer (some ⟨l, 0, none⟩), .pointer (some ⟨m, 0, none⟩)] 101)) = W0 at *
  have e0 := HL.out.of 0 _ rfl
  have hz : w.heap.size + 1 + 1 < W0.heap.size := HN.out.1
  clear m4 f4 l5 f5
  go_region
  go_wp2
  go_end0
  refine ⟨⟨_, rfl⟩, w.heap.size + 1 + 1, by omega, ?_, ?_⟩
  · have hN := (HN.out.farS (p := ⟨l, 5, none⟩) (by show _ ≠ l; omega) (.pointer (some ⟨w.heap.size + 1 + 1, 0, none⟩))).farS (p := ⟨m, 4, none⟩) (by show _ ≠ m; omega) (.pointer (some ⟨w.heap.size + 1 + 1, 0, none⟩))
    refine Ring.more (cs := [.int .i64 x.kind, .int .i64 x.tx, .slice A1 x.locks.length c1, .slice A2 x.writes.length c2]) HR.out (by omega) hN.1 (fun q j hq => ?_) (fun q j hq => ?_) (fun j u hu => hN.2.2 j u (by rw [HM.out, HLl.out] at hu; exact hu)) hN.2.1 (fun q hq h => ((h.below HB3.out hq).set ⟨l, 5, none⟩ rfl _).set ⟨m, 4, none⟩ rfl _) ((HP.out.set ⟨l, 5, none⟩ rfl _).set ⟨m, 4, none⟩ rfl _) HX.out
    · rw [HM.out, HLl.out]
      show ((W0.setCell ⟨l, 5, none⟩ (.pointer (some ⟨w.heap.size + 1 + 1, 0, none⟩))).setCell ⟨m, 4, none⟩ (.pointer (some ⟨w.heap.size + 1 + 1, 0, none⟩))).cell? ⟨q, j, none⟩ = _
      have hne4 : (W0.setCell ⟨l, 5, none⟩ (.pointer (some ⟨w.heap.size + 1 + 1, 0, none⟩))).cell? ⟨m, 4, none⟩ ≠ none := by
        rw [World.cell?_setCell_other _ _ _ _ (by intro e; injection e with _ e2; omega), d4]; simp
      rw [cellSet hne4, cellSet (by rw [d5]; simp), HB3.out.cell (p := ⟨q, j, none⟩) hq]
      simp only [and_true, ptr]
    · show ((W0.setCell ⟨l, 5, none⟩ _).setCell ⟨m, 4, none⟩ _).frozen? ⟨q, j, none⟩ = _
      rw [World.frozen?_setCell, World.frozen?_setCell]
      exact HB3.out.frozen (p := ⟨q, j, none⟩) hq
  · exact (((Outs.of_below HB3.out).trans (Outs.of_set W0 ⟨l, 5, none⟩ _ ⟨ns.length, hn, HLl.out.symm⟩)).trans (Outs.of_set _ ⟨m, 4, none⟩ _ ⟨0, h0, HM.out.symm⟩)).drew

/-- What listOf leaves. -/
def Listed (ns : List Note) (w : World) (e : Ending) (w' : World) : Prop := ∃ L, e = .returned (.agg #[ptr (at_ L 0)]) ∧ Ring w' w.heap.size L ns ∧ Below w.heap.size w w'

set_option maxRecDepth 100000 in
set_option maxHeartbeats 1000000 in
theorem listOf_any (w : World) (v : Value) (ns : List Note) (hv : noteSh.Row w w.heap.size v ns) :
    Calls Try.prog 61 #[v] w (Listed ns w) := by
  obtain ⟨A, c, rfl, hc2, hc1⟩ := hv.form
  unfold maxLen at hc2
  have HV := Lib.hid fun W (hb : Below w.heap.size w W) => hv.below hb
  clear hv
  have HI := Lib.hid (ToInv.start w #[.pointer none] #[.int .i64 0, .int .i64 0, .slice none 0 0, .slice none 0 0, .pointer (some ⟨w.heap.size + 1, 0, none⟩), .pointer (some ⟨w.heap.size + 1, 0, none⟩)] #[.pointer (some ⟨w.heap.size + 1, 0, none⟩)] 79 101 79)
  have HP := Lib.hid (Plain_.second w (.cells #[.pointer none] 79) (.cells #[.pointer (some ⟨w.heap.size + 1, 0, none⟩)] 79) #[.int .i64 0, .int .i64 0, .slice none 0 0, .slice none 0 0, .pointer (some ⟨w.heap.size + 1, 0, none⟩), .pointer (some ⟨w.heap.size + 1, 0, none⟩)] 101)
  go_enter Try.func61, Try.ntmps61
  go_wp2
  generalize (((w.alloc (.cells #[.pointer none] 79)).alloc (.cells #[.int .i64 0, .int .i64 0, .slice none 0 0, .slice none 0 0, .pointer (some ⟨w.heap.size + 1, 0, none⟩), .pointer (some ⟨w.heap.size + 1, 0, none⟩)] 101)).alloc (.cells #[.pointer (some ⟨w.heap.size + 1, 0, none⟩)] 79)) = w0 at *
  go_loopw [21] (fun i wr => ∃ (k : Nat) (L : List Nat), k ≤ ns.length ∧ i = .int .i64 k ∧ Ring wr w.heap.size L (ns.take k) ∧ at_ L 0 = w.heap.size + 1 ∧ (∀ j, 1 ≤ j → j < L.length → w.heap.size + 1 + 1 < at_ L j) ∧ Held wr w.heap.size [.pointer none] ∧ Held wr (w.heap.size + 1 + 1) [.pointer (some ⟨w.heap.size + 1, 0, none⟩)] ∧ Below w.heap.size w wr) (fun i _ => ns.length - (intOf i).toNat)
  case atStart => exact ⟨0, [w.heap.size + 1], Nat.zero_le _, rfl, Ring.one (by omega) HI.out.res.1 (HI.out.res.of 4 _ rfl) (HI.out.res.of 5 _ rfl) HI.out.res.2.1 HP.out, rfl, fun j h1 h2 => by simp at h2; omega, HI.out.box, HI.out.out, HI.out.bel⟩
  case round =>
    clear HI HP
    obtain ⟨k, L, hk, rfl, hR, hL0, hLj, hH0, hH2, hb⟩ := hrel
    have c2 := hH2.of 0 _ rfl
    have c0 := hH0.of 0 _ rfl
    have f0 := hH0.2.1
    by_cases hlt : k < ns.length
    · obtain ⟨b, off, c', x, A1, c1, A2, c2', e1, hx, hB, d0, d1, d2, d3, hr⟩ := notes_at2 (HV.out _ hb) hlt
      injection e1 with e1a e1b e1c
      subst e1a
      have hz2 : w.heap.size + 1 + 1 < wr.heap.size := hH2.1
      have HA : Hid _ := Lib.hid fun o => add_any (wr.alloc o) w.heap.size L (ns.take k) _ x (hR.onward (belowOne wr o)) (noteSh.rbelow hr ((Below.refl _ wr).alloc hb.size o))
      rw [hL0] at HA
      unfold ptr at HA
      have HLn := Lib.hid hR.len
      have HL0 := Lib.hid hL0
      have HLj := Lib.hid hLj
      have HH0 := Lib.hid fun o => hH0.after o
      have HH2 := Lib.hid fun o => hH2.after o
      have HB := Lib.hid fun o => hb.alloc hb.size o
      have HX := Lib.hid hx
      have HLo := Lib.hid hR.lo
      clear e1b e1c hr hR hL0 hLj hH0 hH2 hx hb
      go_wp2_with fail
      refine (HA.out _).mono ?_
      rintro e w1 ⟨⟨v1, rfl⟩, b1, hb1, hR1, ho1⟩
      have hL : 0 < L.length := by have := HLn.out; omega
      have hnr : ∀ q, q = w.heap.size ∨ q = w.heap.size + 1 + 1 → ¬ InRing L q := by
        rintro q hq ⟨i, hi, e⟩
        rcases Nat.eq_zero_or_pos i with h' | h'
        · subst h'; have := HL0.out; omega
        · have := HLj.out i h' hi; omega
      have HN : Hid (Ring w1 w.heap.size (L ++ [b1]) (ns.take (k + 1)) ∧ at_ (L ++ [b1]) 0 = w.heap.size + 1 ∧ (∀ j, 1 ≤ j → j < (L ++ [b1]).length → w.heap.size + 1 + 1 < at_ (L ++ [b1]) j) ∧ Held w1 w.heap.size [.pointer none] ∧ Held w1 (w.heap.size + 1 + 1) [.pointer (some ⟨w.heap.size + 1, 0, none⟩)] ∧ Below w.heap.size w w1) := by
        refine Lib.hid ⟨by rw [take_snoc HX.out]; exact hR1, by rw [at_left hL]; exact HL0.out, fun j h1 h2 => ?_, (HH0.out _).outs ho1 (hnr _ (.inl rfl)), (HH2.out _).outs ho1 (hnr _ (.inr rfl)), ?_⟩
        · simp only [List.length_append, List.length_cons, List.length_nil] at h2
          rcases Nat.lt_or_ge j L.length with h' | h'
          · rw [at_left h']; exact HLj.out j h1 h'
          · rw [at_last (by omega)]; simp at hb1; omega
        · exact (HB.out _).trans (ho1.below (by have := (HB.out (.cells #[.int .i64 x.kind, .int .i64 x.tx, .slice A1 x.locks.length c1, .slice A2 x.writes.length c2'] 36)).size; exact this) (fun i ⟨j, hj, e⟩ => by have := HLo.out j hj; omega))
      clear hR1 ho1 hb1 hnr HA
      go_wp2
      go_roundw
      case rel => exact ⟨k + 1, L ++ [b1], by omega, by go_num, HN.out⟩
      case measure => simp [intOf]; omega
    · have HE : Hid (Ring wr w.heap.size L ns) := Lib.hid (by rw [show k = ns.length by omega, List.take_length] at hR; exact hR)
      have HH := Lib.hid hH0
      have HB := Lib.hid hb
      have HL0 := Lib.hid hL0
      have HLj := Lib.hid hLj
      clear hR hL0 hLj hH0 hH2 hb
      go_wp2
      have q0 := (HH.out.set_ (i := 0) (.pointer (some ⟨w.heap.size + 1, 0, none⟩))).of 0 _ rfl
      refine bodyPost_ret (v := .agg #[.pointer (some ⟨w.heap.size + 1, 0, none⟩)]) (by simp [results, Try.results61, go_sem, q0]) rfl ⟨L, by rw [HL0.out]; rfl, ?_, HB.out.setCell (Nat.le_refl _) _⟩
      have hsz : (wr.setCell ⟨w.heap.size, 0, none⟩ (.pointer (some ⟨w.heap.size + 1, 0, none⟩))).heap.size = wr.heap.size := by simp [World.setCell]
      have h0 := HE.out
      have hne : ∀ i, i < L.length → at_ L i ≠ w.heap.size := fun i hi e => by
        rcases Nat.eq_zero_or_pos i with h' | h'
        · subst h'; have := HL0.out; omega
        · have := HLj.out i h' hi; omega
      exact ⟨h0.len, h0.lo, h0.up, fun i hi => by rw [hsz]; exact h0.lt i hi,
        fun i hi => (World.cell?_setCell_other _ _ _ _ (by intro e; injection e with e1 _; exact hne i hi e1.symm)).trans (h0.prev i hi),
        fun i hi => (World.cell?_setCell_other _ _ _ _ (by intro e; injection e with e1 _; exact hne i hi e1.symm)).trans (h0.next i hi),
        fun i j hi => (World.frozen?_setCell _ _ _ _).trans (h0.free i j hi),
        fun i hi => (h0.blk i hi).set _ rfl _,
        fun i x hx => by
          obtain ⟨cs, h1, h2⟩ := h0.note i x hx
          have hi : i + 1 < L.length := by rw [h0.len]; have := (List.getElem?_eq_some_iff.1 hx).1; omega
          exact ⟨cs, noteSh.rkeep h1 fun q o hq => World.cell?_setCell_other _ _ _ _ (by intro e; injection e with e1 _; omega), fun j u hu => (World.cell?_setCell_other _ _ _ _ (by intro e; injection e with e1 _; exact hne (i + 1) hi e1.symm)).trans (h2 j u hu)⟩⟩

end Go.Proofs.Ytkamlibfcakblaa

/- The iterators over a ring of notes: what they hand to the body of a loop. -/
namespace Go.Proofs.Ytkamlibfcakblaa
open Go.RowKit Go.Shelf

attribute [local go_sem] Oper.semAt_some

/-- The places of the notes of a ring. -/
abbrev Spot (n : Nat) : Type := { i : Nat // 1 ≤ i ∧ i ≤ n }
/-- From s down to 1. -/
def down (n : Nat) : (s : Nat) → s ≤ n → List (Spot n)
  | 0, _ => []
  | s + 1, h => ⟨s + 1, by omega, h⟩ :: down n s (by omega)
/-- The last m. -/
def upto (n : Nat) : (m : Nat) → m ≤ n → List (Spot n)
  | 0, _ => []
  | m + 1, h => ⟨n - m, by omega, by omega⟩ :: upto n m (by omega)

theorem upto_cons {n m i : Nat} (hm : m + 1 ≤ n) (hi : n + 1 - (m + 1) = i) (h1 : 1 ≤ i) (h2 : i ≤ n) : upto n (m + 1) hm = ⟨i, h1, h2⟩ :: upto n m (by omega) := by
  have e : upto n (m + 1) hm = ⟨n - m, by omega, by omega⟩ :: upto n m (by omega) := rfl
  rw [e]
  congr 1
  exact Subtype.ext (by show n - m = i; omega)
/-- Which of a ring a pointer is. -/
def idx (L : List Nat) : Value → Nat
  | .pointer (some a) => L.findIdx (· == a.block)
  | _ => 0
theorem idx_at {w : World} {B : Nat} {L : List Nat} {ns : List Note} (h : Ring w B L ns) {i : Nat} (hi : i < L.length) : idx L (ptr (at_ L i)) = i := by
  have hat : ∀ j (hj : j < L.length), at_ L j = L[j] := fun j hj => by simp [at_, List.getD_eq_getElem?_getD, hj]
  show L.findIdx (· == at_ L i) = i
  rw [List.findIdx_eq hi]
  refine ⟨by rw [hat i hi]; simp, fun j hj => ?_⟩
  have := h.up j i hj hi
  rw [hat j (by omega)] at this
  simp only [beq_eq_false_iff_ne]
  omega
theorem at_ne {w : World} {B : Nat} {L : List Nat} {ns : List Note} (h : Ring w B L ns) {i : Nat} (hi : i < L.length) (h0 : 1 ≤ i) : at_ L i ≠ at_ L 0 := by
  have := h.up 0 i h0 hi; omega

theorem neq_other {P : Program} (w : World) {tp te : TypeId} {j : TypeInfo} {a b : Addr} {ca cb : Array Value} {ta tb : TypeId} (hp : P.underlying tp = some (.pointer te)) (hte : P.info? te = some j) (hsz : j.size ≠ 0)
    (hne : a ≠ b) (ha : w.heap[a.block]? = some (.cells ca ta (0, 0))) (hb : w.heap[b.block]? = some (.cells cb tb (0, 0))) :
    (binOp .neq tp (.pointer (some a)) (.pointer (some b))).run P w = .ok (.bool true) w := by
  have h : ∀ d : Nat, (Op.equalIn (d + 1) tp (.pointer (some a)) (.pointer (some b))).run P w = .ok false w := fun d => by
    simp [Op.equalIn, run_underlying hp, sizeOf, typeInfo, hte, hsz, run_sameAddr_other w hne ha hb]
  simp only [binOp]
  simp [Op.equal, Op.maxDepth, h 9999]
theorem linkInfo : ∃ j, Try.prog.info? 101 = some j ∧ j.size ≠ 0 := by
  have h : (Try.prog.info? 101).map (·.size) = some 6 := by kernel_rfl
  obtain ⟨j, hj, e⟩ := Option.map_eq_some_iff.1 h
  exact ⟨j, hj, by rw [e]; decide⟩
theorem startAt {L : List Nat} {n s : Nat} (h : nxt_ n 0 = s) : Value.pointer (some ⟨at_ L s, 0, none⟩) = .pointer (some ⟨at_ L (if n = 0 then 0 else n + 1 - n), 0, none⟩) := by
  rw [← h]; unfold nxt_
  by_cases e : n = 0
  · rw [if_pos e.symm, if_pos e]
  · rw [if_neg (Ne.symm e), if_neg e, show n + 1 - n = 0 + 1 by omega]
/-- Two links of a ring compared. -/
theorem ring_neq {w : World} {B : Nat} {L : List Nat} {ns : List Note} (h : Ring w B L ns) {i : Nat} (hi : i < L.length) (h0 : 1 ≤ i) :
    (binOp .neq 77 (.pointer (some ⟨at_ L i, 0, none⟩)) (.pointer (some ⟨at_ L 0, 0, none⟩))).run Try.prog w = .ok (.bool true) w := by
  obtain ⟨j, hj, hs⟩ := linkInfo
  obtain ⟨ca, ta, ha⟩ := h.blk i hi
  obtain ⟨cb, tb, hb⟩ := h.blk 0 (by omega)
  exact neq_other w Try.underlying77 hj hs (by intro e; injection e with e1 _; exact at_ne h hi h0 e1) ha hb
theorem ring_same (w : World) (b : Nat) : (binOp .neq 77 (.pointer (some ⟨b, 0, none⟩)) (.pointer (some ⟨b, 0, none⟩))).run Try.prog w = .ok (.bool false) w := by
  obtain ⟨j, hj, hs⟩ := linkInfo
  exact Lib.run_neq_ptr_same w _ Try.underlying77 hj

set_option maxRecDepth 100000 in
set_option maxHeartbeats 1000000 in
theorem before1_in (F : Fence) (d : Nat) (hg : F.fn 133) (hro : F.round = none) (hd : 1 ≤ d) (l Ba Bl B n₀ : Nat) (L : List Nat) (ns : List Note) (p s : Nat) (hp : p < L.length) (hs : s ≤ ns.length) (hps : pre_ ns.length p = s) (J Jx : List (Spot ns.length) → World → Prop)
    (hY : ∀ pre x W, J pre W → pre.length < (down ns.length s hs).length → YieldAt F (d - 1) Try.prog l #[ptr (at_ L x.1)] W fun e W' =>
      (e = .returned (.bool true) ∧ J (pre ++ [x]) W' ∧ Below n₀ W W') ∨ (e = .returned (.bool false) ∧ Jx (pre ++ [x]) W'))
    (W : World) (hBa : W.cell? ⟨Ba, 0, none⟩ = some (ptr (at_ L p))) (hBl : W.cell? ⟨Bl, 0, none⟩ = some (ptr (at_ L 0))) (hBl' : Bl < n₀) (hR : Ring W B L ns) (hLn : ∀ i, i < L.length → at_ L i < n₀) (hBn : B ≤ n₀) (h0 : J [] W) :
    CallsIn F d Try.prog 133 #[.func (.yield l) #[] #[], ptr Ba, ptr Bl] W fun e W' => (∃ v, e = .returned v) ∧
      ((∃ ys, ys = down ns.length s hs ∧ J ys W') ∨ (∃ pre, pre <+: down ns.length s hs ∧ Jx pre W')) := by
  have hpv := hR.prev p hp
  rw [hps] at hpv
  unfold ptr at hBa hBl hpv ⊢
  refine callsIn_of_wp Try.func133 rfl hg ?_ hro
  simp only [Try.ntmps133, List.size_toArray, List.length_cons, List.length_nil, Nat.reduceAdd, Nat.reduceSub, Array.replicate_succ, Array.replicate_zero, List.push_toArray, List.append_toArray, List.nil_append, List.cons_append]
  gi_wp2
  gi_loopw [4] (fun q wr => ∃ (pre : List (Spot ns.length)) (i : Nat) (hi : i ≤ ns.length), q = .pointer (some ⟨at_ L i, 0, none⟩) ∧ down ns.length s hs = pre ++ down ns.length i hi ∧ Ring wr B L ns ∧ wr.cell? ⟨Bl, 0, none⟩ = some (.pointer (some ⟨at_ L 0, 0, none⟩)) ∧ J pre wr)
    (fun q _ => idx L q)
  case atStart => exact ⟨[], s, hs, rfl, rfl, hR, hBl, h0⟩
  case round =>
    obtain ⟨pre, i, hi, rfl, hx, hRr, hBr, hJ⟩ := hrel
    have hlen := hRr.len
    cases i with
    | zero =>
      have hsame := ring_same wr (at_ L 0)
      gi_wp2
      go_end0
      exact ⟨⟨_, rfl⟩, .inl ⟨pre, by rw [hx]; simp [down], hJ⟩⟩
    | succ i =>
      have hneq := ring_neq hRr (show i + 1 < L.length by omega) (by omega)
      have hix := idx_at hRr (show i + 1 < L.length by omega)
      have hix' := idx_at hRr (show i < L.length by omega)
      have hq := hRr.prev (i + 1) (by omega)
      have hlt := hLn (i + 1) (by omega)
      simp only [pre_, Nat.add_sub_cancel, show ¬ i + 1 = 0 by omega, if_false] at hq
      unfold ptr at hq hix hix'
      obtain ⟨fn, tmps, assign, body, hy, hYR⟩ := hY pre ⟨i + 1, by omega, hi⟩ wr hJ (by rw [hx]; simp [down])
      unfold ptr at hy
      dsimp only at hy
      gi_wp2
      refine hYR.mono ?_
      rintro e W3 (⟨rfl, hJ3, hk3⟩ | ⟨rfl, hJx3⟩)
      · have hq3 := (hk3.cell (p := ⟨at_ L (i + 1), 4, none⟩) hlt).trans hq
        have hR3 := Lib.hid (hRr.below hk3 hBn hLn)
        have hB3 := (hk3.cell (p := ⟨Bl, 0, none⟩) hBl').trans hBr
        gi_wp2
        go_roundw
        case rel => exact ⟨pre ++ [⟨i + 1, by omega, hi⟩], i, by omega, rfl, by rw [hx]; simp [down], hR3.out, hB3, hJ3⟩
        case measure => rw [hix, hix']; omega
      · gi_wp2
        refine bodyPost_ret (results_none rfl _ _ _) rfl ?_
        exact ⟨⟨_, rfl⟩, .inr ⟨pre ++ [⟨i + 1, by omega, hi⟩], ⟨down ns.length i (by omega), by rw [hx]; simp [down]⟩, hJx3⟩⟩

/-- From the marker on, or from a note: all ahead of it, the nearest first. -/
theorem before_stops (F : Fence) (d : Nat) (hg : F.fn 133) (hro : F.round = none) (hd : 1 ≤ d) (Ba Bl B n₀ : Nat) (L : List Nat) (ns : List Note) (p s : Nat) (hp : p < L.length) (hs : s ≤ ns.length) (hps : pre_ ns.length p = s)
    (w : World) (hBa' : Ba < w.heap.size) (hBl0 : Bl < w.heap.size) (hBl' : Bl < n₀) (hBa : w.cell? ⟨Ba, 0, none⟩ = some (ptr (at_ L p))) (hBl : w.cell? ⟨Bl, 0, none⟩ = some (ptr (at_ L 0))) (hR : Ring w B L ns) (hLn : ∀ i, i < L.length → at_ L i < n₀) (hBn : B ≤ n₀) :
    SeqStopsK F d Try.prog 133 #[ptr Ba, ptr Bl] (fun x : Spot ns.length => #[ptr (at_ L x.1)]) (Below n₀) (fun ys => ys = down ns.length s hs) (fun pre => pre <+: down ns.length s hs) (down ns.length s hs).length w := fun l J Jx W hW _ _ hY h0 =>
  before1_in F d hg hro hd l Ba Bl B n₀ L ns p s hp hs hps J Jx hY W ((hW.cell (p := ⟨Ba, 0, none⟩) hBa').trans hBa) ((hW.cell (p := ⟨Bl, 0, none⟩) hBl0).trans hBl) hBl' (hR.onward hW) hLn hBn h0

set_option maxRecDepth 100000 in
set_option maxHeartbeats 1000000 in
theorem after1_in (F : Fence) (d : Nat) (hg : F.fn 119) (hro : F.round = none) (hd : 1 ≤ d) (l Ba Bl B n₀ : Nat) (L : List Nat) (ns : List Note) (J Jx : List (Spot ns.length) → World → Prop)
    (hY : ∀ pre x W, J pre W → pre.length < (upto ns.length ns.length (Nat.le_refl _)).length → YieldAt F (d - 1) Try.prog l #[ptr (at_ L x.1)] W fun e W' =>
      (e = .returned (.bool true) ∧ J (pre ++ [x]) W' ∧ Below n₀ W W') ∨ (e = .returned (.bool false) ∧ Jx (pre ++ [x]) W'))
    (W : World) (hBa : W.cell? ⟨Ba, 0, none⟩ = some (ptr (at_ L 0))) (hBl : W.cell? ⟨Bl, 0, none⟩ = some (ptr (at_ L 0))) (hBl' : Bl < n₀) (hR : Ring W B L ns) (hLn : ∀ i, i < L.length → at_ L i < n₀) (hBn : B ≤ n₀) (h0 : J [] W) :
    CallsIn F d Try.prog 119 #[.func (.yield l) #[] #[], ptr Ba, ptr Bl] W fun e W' => (∃ v, e = .returned v) ∧
      ((∃ ys, ys = upto ns.length ns.length (Nat.le_refl _) ∧ J ys W') ∨ (∃ pre, pre <+: upto ns.length ns.length (Nat.le_refl _) ∧ Jx pre W')) := by
  have hpv := hR.next 0 (by rw [hR.len]; omega)
  have hlen0 := hR.len
  obtain ⟨s0, hs0⟩ : ∃ s0, nxt_ ns.length 0 = s0 := ⟨_, rfl⟩
  rw [hs0] at hpv
  have hs1 := Lib.hid hs0
  clear hs0
  unfold ptr at hBa hBl hpv ⊢
  refine callsIn_of_wp Try.func119 rfl hg ?_ hro
  simp only [Try.ntmps119, List.size_toArray, List.length_cons, List.length_nil, Nat.reduceAdd, Nat.reduceSub, Array.replicate_succ, Array.replicate_zero, List.push_toArray, List.append_toArray, List.nil_append, List.cons_append]
  gi_wp2
  gi_loopw [4] (fun q wr => ∃ (pre : List (Spot ns.length)) (m : Nat) (hm : m ≤ ns.length), q = .pointer (some ⟨at_ L (if m = 0 then 0 else ns.length + 1 - m), 0, none⟩) ∧ upto ns.length ns.length (Nat.le_refl _) = pre ++ upto ns.length m hm ∧ Ring wr B L ns ∧ wr.cell? ⟨Bl, 0, none⟩ = some (.pointer (some ⟨at_ L 0, 0, none⟩)) ∧ J pre wr)
    (fun q _ => (ns.length + 1 - idx L q) % (ns.length + 1))
  case atStart => exact ⟨[], ns.length, Nat.le_refl _, startAt hs1.out, rfl, hR, hBl, h0⟩
  case round =>
    obtain ⟨pre, m, hm, rfl, hx, hRr, hBr, hJ⟩ := hrel
    have hlen := hRr.len
    cases m with
    | zero =>
      simp only [if_true]
      have hsame := ring_same wr (at_ L 0)
      gi_wp2
      go_end0
      exact ⟨⟨_, rfl⟩, .inl ⟨pre, by rw [hx]; simp [upto], hJ⟩⟩
    | succ m =>
      obtain ⟨i, hi⟩ : ∃ i, ns.length + 1 - (m + 1) = i := ⟨_, rfl⟩
      have hi1 : 1 ≤ i := by omega
      have hi2 : i ≤ ns.length := by omega
      simp only [Nat.add_one_ne_zero, if_false, hi]
      have hneq := ring_neq hRr (show i < L.length by omega) hi1
      have hix := idx_at hRr (show i < L.length by omega)
      have hq := hRr.next i (by omega)
      have hlt := hLn i (by omega)
      obtain ⟨t, ht⟩ : ∃ t, nxt_ ns.length i = t := ⟨_, rfl⟩
      have hix' := idx_at hRr (show t < L.length by rw [← ht]; unfold nxt_; split <;> omega)
      rw [ht] at hq
      unfold ptr at hq hix hix'
      have hsp := upto_cons hm hi hi1 hi2
      obtain ⟨fn, tmps, assign, body, hy, hYR⟩ := hY pre ⟨i, hi1, hi2⟩ wr hJ (by rw [hx, hsp]; simp)
      unfold ptr at hy
      dsimp only at hy
      gi_wp2
      refine hYR.mono ?_
      rintro e W3 (⟨rfl, hJ3, hk3⟩ | ⟨rfl, hJx3⟩)
      · have hq3 := (hk3.cell (p := ⟨at_ L i, 5, none⟩) hlt).trans hq
        have hR3 := Lib.hid (hRr.below hk3 hBn hLn)
        have hB3 := (hk3.cell (p := ⟨Bl, 0, none⟩) hBl').trans hBr
        gi_wp2
        go_roundw
        case rel =>
          refine ⟨pre ++ [⟨i, hi1, hi2⟩], m, by omega, ?_, by rw [hx, hsp]; simp, hR3.out, hB3, hJ3⟩
          rw [← ht]; unfold nxt_
          by_cases e : m = 0
          · rw [if_pos (by omega), if_pos e]
          · rw [if_neg (by omega), if_neg e, show i + 1 = ns.length + 1 - m by omega]
        case measure =>
          rw [hix, hix']
          by_cases e : m = 0
          · have h0 : t = 0 := by rw [← ht]; unfold nxt_; rw [if_pos (by omega)]
            rw [h0, Nat.sub_zero, Nat.mod_self, Nat.mod_eq_of_lt (by omega)]; omega
          · have h0 : t = i + 1 := by rw [← ht]; unfold nxt_; rw [if_neg (by omega)]
            rw [h0, Nat.mod_eq_of_lt (by omega), Nat.mod_eq_of_lt (by omega)]; omega
      · gi_wp2
        refine bodyPost_ret (results_none rfl _ _ _) rfl ?_
        exact ⟨⟨_, rfl⟩, .inr ⟨pre ++ [⟨i, hi1, hi2⟩], ⟨upto ns.length m (by omega), by rw [hx, hsp]; simp⟩, hJx3⟩⟩

/-- From the marker on: all, in order. -/
theorem after_stops (F : Fence) (d : Nat) (hg : F.fn 119) (hro : F.round = none) (hd : 1 ≤ d) (Ba Bl B n₀ : Nat) (L : List Nat) (ns : List Note)
    (w : World) (hBa' : Ba < w.heap.size) (hBl0 : Bl < w.heap.size) (hBl' : Bl < n₀) (hBa : w.cell? ⟨Ba, 0, none⟩ = some (ptr (at_ L 0))) (hBl : w.cell? ⟨Bl, 0, none⟩ = some (ptr (at_ L 0))) (hR : Ring w B L ns) (hLn : ∀ i, i < L.length → at_ L i < n₀) (hBn : B ≤ n₀) :
    SeqStopsK F d Try.prog 119 #[ptr Ba, ptr Bl] (fun x : Spot ns.length => #[ptr (at_ L x.1)]) (Below n₀) (fun ys => ys = upto ns.length ns.length (Nat.le_refl _)) (fun pre => pre <+: upto ns.length ns.length (Nat.le_refl _)) (upto ns.length ns.length (Nat.le_refl _)).length w := fun l J Jx W hW _ _ hY h0 =>
  after1_in F d hg hro hd l Ba Bl B n₀ L ns J Jx hY W ((hW.cell (p := ⟨Ba, 0, none⟩) hBa').trans hBa) ((hW.cell (p := ⟨Bl, 0, none⟩) hBl0).trans hBl) hBl' (hR.onward hW) hLn hBn h0

end Go.Proofs.Ytkamlibfcakblaa
