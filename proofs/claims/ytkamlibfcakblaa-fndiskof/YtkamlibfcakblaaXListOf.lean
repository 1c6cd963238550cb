/- What add and listOf leave: a ring. -/
import Derived.Test.YtkamlibfcakblaaXDiskOk
import Derived.Test.YtkamlibfcakblaaXHStr
namespace Go.Proofs.Ytkamlibfcakblaa
open Go.RowKit

/-- The blocks of a ring. -/
def InRing (L : List Nat) (q : Nat) : Prop := ∃ i, i < L.length ∧ q = at_ L i

theorem cellSet {V : World} {p : Addr} {u : Value} {q j : Nat} (hne : V.cell? p ≠ none) : (V.setCell p u).cell? ⟨q, j, none⟩ = if q = p.block ∧ j = p.off ∧ p.spot = none then some u else V.cell? ⟨q, j, none⟩ := by
  by_cases e : (⟨q, j, none⟩ : Addr) = p
  · subst e
    rw [World.cell?_setCell_same' _ _ _ (by cases h : V.cell? ⟨q, j, none⟩ with
      | none => exact absurd h hne
      | some _ => rfl)]
    simp
  · rw [World.cell?_setCell_other _ _ _ _ (Ne.symm e), if_neg]
    rintro ⟨h1, h2, h3⟩
    exact e (by cases p; simp at *; exact ⟨h1, h2, h3.symm ▸ rfl⟩)
set_option maxRecDepth 100000 in
set_option maxHeartbeats 1000000 in
theorem add_any (w : World) (B : Nat) (L : List Nat) (ns : List Note) (cs : List Value) (x : Note) (hR : Ring w B L ns) (hx : noteSh.rel w B cs x) :
    Calls Try.prog 69 #[.agg #[ptr (at_ L 0)], .agg cs.toArray] w fun e w' => (∃ v, e = .returned v) ∧ ∃ b, w.heap.size ≤ b ∧ Ring w' B (L ++ [b]) (ns ++ [x]) ∧ Outs (InRing L) w w' := by
  have hl := hR.len
  have h0 : 0 < L.length := by omega
  have hn : ns.length < L.length := by omega
  have m4 := hR.prev 0 h0
  have f4 := hR.free 0 4 h0
  have z0 := hR.lt 0 h0
  have zn := hR.lt ns.length hn
  have l5 := hR.next ns.length hn
  have f5 := hR.free ns.length 5 hn
  simp only [pre_, if_true] at m4
  have HR := Lib.hid hR
  have HX := Lib.hid hx
  obtain ⟨u, v, rfl, hu, hv⟩ := note_rel.1 hx
  obtain ⟨A1, c1, rfl, -, -⟩ := hu.form
  obtain ⟨A2, c2, rfl, -, -⟩ := hv.form
  clear hR hx hu hv hl
  unfold ptr at *
  obtain ⟨m, hm⟩ : ∃ m, at_ L 0 = m := ⟨_, rfl⟩
  obtain ⟨l, hl⟩ : ∃ l, at_ L ns.length = l := ⟨_, rfl⟩
  rw [hm] at f4 z0 ⊢
  rw [hm, hl] at m4
  rw [hl] at f5 zn l5
  have HM := Lib.hid hm
  have HLl := Lib.hid hl
  clear hm hl
  have hB3 := belowThree w (.cells #[.pointer (some ⟨m, 0, none⟩)] 79) (.cells #[.int .i64 x.kind, .int .i64 x.tx, .slice A1 x.locks.length c1, .slice A2 x.writes.length c2] 36) (.cells #[.int .i64 x.kind, .int .i64 x.tx, .slice A1 x.locks.length c1, .slice A2 x.writes.length c2, .pointer (some ⟨l, 0, none⟩), .pointer (some ⟨m, 0, none⟩)] 101)
  have d4 := (hB3.cell (p := ⟨m, 4, none⟩) z0).trans m4
  have g4 := (hB3.frozen (p := ⟨m, 4, none⟩) z0).trans f4
  have d5 := (hB3.cell (p := ⟨l, 5, none⟩) zn).trans l5
  have g5 := (hB3.frozen (p := ⟨l, 5, none⟩) zn).trans f5
  have HL : Hid (Held (((w.alloc (.cells #[.pointer (some ⟨m, 0, none⟩)] 79)).alloc (.cells #[.int .i64 x.kind, .int .i64 x.tx, .slice A1 x.locks.length c1, .slice A2 x.writes.length c2] 36)).alloc (.cells #[.int .i64 x.kind, .int .i64 x.tx, .slice A1 x.locks.length c1, .slice A2 x.writes.length c2, .pointer (some ⟨l, 0, none⟩), .pointer (some ⟨m, 0, none⟩)] 101)) w.heap.size [.pointer (some ⟨m, 0, none⟩)]) := Lib.hid (((Held.new w #[.pointer (some ⟨m, 0, none⟩)] 79).after _).after _)
  have HN : Hid (Held (((w.alloc (.cells #[.pointer (some ⟨m, 0, none⟩)] 79)).alloc (.cells #[.int .i64 x.kind, .int .i64 x.tx, .slice A1 x.locks.length c1, .slice A2 x.writes.length c2] 36)).alloc (.cells #[.int .i64 x.kind, .int .i64 x.tx, .slice A1 x.locks.length c1, .slice A2 x.writes.length c2, .pointer (some ⟨l, 0, none⟩), .pointer (some ⟨m, 0, none⟩)] 101)) (w.heap.size + 1 + 1) [.int .i64 x.kind, .int .i64 x.tx, .slice A1 x.locks.length c1, .slice A2 x.writes.length c2, .pointer (some ⟨l, 0, none⟩), .pointer (some ⟨m, 0, none⟩)]) := Lib.hid ((Held.new ((w.alloc (.cells #[.pointer (some ⟨m, 0, none⟩)] 79)).alloc (.cells #[.int .i64 x.kind, .int .i64 x.tx, .slice A1 x.locks.length c1, .slice A2 x.writes.length c2] 36)) #[.int .i64 x.kind, .int .i64 x.tx, .slice A1 x.locks.length c1, .slice A2 x.writes.length c2, .pointer (some ⟨l, 0, none⟩), .pointer (some ⟨m, 0, none⟩)] 101).lit (by simp))
  have HB3 := Lib.hid hB3
  have HP := Lib.hid (Plain_.third w (.cells #[.pointer (some ⟨m, 0, none⟩)] 79) (.cells #[.int .i64 x.kind, .int .i64 x.tx, .slice A1 x.locks.length c1, .slice A2 x.writes.length c2] 36) #[.int .i64 x.kind, .int .i64 x.tx, .slice A1 x.locks.length c1, .slice A2 x.writes.length c2, .pointer (some ⟨l, 0, none⟩), .pointer (some ⟨m, 0, none⟩)] 101)
  clear hB3
  go_enter Try.func69, Try.ntmps69
  go_wp2
  generalize (((w.alloc (.cells #[.pointer (some ⟨m, 0, none⟩)] 79)).alloc (.cells #[.int .i64 x.kind, .int .i64 x.tx, .slice A1 x.locks.length c1, .slice A2 x.writes.length c2] 36)).alloc (.cells #[.int .i64 x.kind, .int .i64 x.tx, .slice A1 x.locks.length c1, .slice A2 x.writes.length c2, .pointer (some ⟨l, 0, none⟩), .pointer (some ⟨m, 0, none⟩)] 101)) = W0 at *
  have e0 := HL.out.of 0 _ rfl
  have hz : w.heap.size + 1 + 1 < W0.heap.size := HN.out.1
  clear m4 f4 l5 f5
  go_region
  go_wp2
  go_end0
  refine ⟨⟨_, rfl⟩, w.heap.size + 1 + 1, by omega, ?_, ?_⟩
  · have hN := (HN.out.farS (p := ⟨l, 5, none⟩) (by show _ ≠ l; omega) (.pointer (some ⟨w.heap.size + 1 + 1, 0, none⟩))).farS (p := ⟨m, 4, none⟩) (by show _ ≠ m; omega) (.pointer (some ⟨w.heap.size + 1 + 1, 0, none⟩))
    refine Ring.more (cs := [.int .i64 x.kind, .int .i64 x.tx, .slice A1 x.locks.length c1, .slice A2 x.writes.length c2]) HR.out (by omega) hN.1 (fun q j hq => ?_) (fun q j hq => ?_) (fun j u hu => hN.2.2 j u (by rw [HM.out, HLl.out] at hu; exact hu)) hN.2.1 (fun q hq h => ((h.below HB3.out hq).set ⟨l, 5, none⟩ rfl _).set ⟨m, 4, none⟩ rfl _) ((HP.out.set ⟨l, 5, none⟩ rfl _).set ⟨m, 4, none⟩ rfl _) HX.out
    · rw [HM.out, HLl.out]
      show ((W0.setCell ⟨l, 5, none⟩ (.pointer (some ⟨w.heap.size + 1 + 1, 0, none⟩))).setCell ⟨m, 4, none⟩ (.pointer (some ⟨w.heap.size + 1 + 1, 0, none⟩))).cell? ⟨q, j, none⟩ = _
      have hne4 : (W0.setCell ⟨l, 5, none⟩ (.pointer (some ⟨w.heap.size + 1 + 1, 0, none⟩))).cell? ⟨m, 4, none⟩ ≠ none := by
        rw [World.cell?_setCell_other _ _ _ _ (by intro e; injection e with _ e2; omega), d4]; simp
      rw [cellSet hne4, cellSet (by rw [d5]; simp), HB3.out.cell (p := ⟨q, j, none⟩) hq]
      simp only [and_true, ptr]
    · show ((W0.setCell ⟨l, 5, none⟩ _).setCell ⟨m, 4, none⟩ _).frozen? ⟨q, j, none⟩ = _
      rw [World.frozen?_setCell, World.frozen?_setCell]
      exact HB3.out.frozen (p := ⟨q, j, none⟩) hq
  · exact (((Outs.of_below HB3.out).trans (Outs.of_set W0 ⟨l, 5, none⟩ _ ⟨ns.length, hn, HLl.out.symm⟩)).trans (Outs.of_set _ ⟨m, 4, none⟩ _ ⟨0, h0, HM.out.symm⟩)).drew

/-- What listOf leaves. -/
def Listed (ns : List Note) (w : World) (e : Ending) (w' : World) : Prop := ∃ L, e = .returned (.agg #[ptr (at_ L 0)]) ∧ Ring w' w.heap.size L ns ∧ Below w.heap.size w w'

set_option maxRecDepth 100000 in
set_option maxHeartbeats 1000000 in
theorem listOf_any (w : World) (v : Value) (ns : List Note) (hv : noteSh.Row w w.heap.size v ns) :
    Calls Try.prog 61 #[v] w (Listed ns w) := by
  obtain ⟨A, c, rfl, hc2, hc1⟩ := hv.form
  unfold maxLen at hc2
  have HV := Lib.hid fun W (hb : Below w.heap.size w W) => hv.below hb
  clear hv
  have HI := Lib.hid (ToInv.start w #[.pointer none] #[.int .i64 0, .int .i64 0, .slice none 0 0, .slice none 0 0, .pointer (some ⟨w.heap.size + 1, 0, none⟩), .pointer (some ⟨w.heap.size + 1, 0, none⟩)] #[.pointer (some ⟨w.heap.size + 1, 0, none⟩)] 79 101 79)
  have HP := Lib.hid (Plain_.second w (.cells #[.pointer none] 79) (.cells #[.pointer (some ⟨w.heap.size + 1, 0, none⟩)] 79) #[.int .i64 0, .int .i64 0, .slice none 0 0, .slice none 0 0, .pointer (some ⟨w.heap.size + 1, 0, none⟩), .pointer (some ⟨w.heap.size + 1, 0, none⟩)] 101)
  go_enter Try.func61, Try.ntmps61
  go_wp2
  generalize (((w.alloc (.cells #[.pointer none] 79)).alloc (.cells #[.int .i64 0, .int .i64 0, .slice none 0 0, .slice none 0 0, .pointer (some ⟨w.heap.size + 1, 0, none⟩), .pointer (some ⟨w.heap.size + 1, 0, none⟩)] 101)).alloc (.cells #[.pointer (some ⟨w.heap.size + 1, 0, none⟩)] 79)) = w0 at *
  go_loopw [21] (fun i wr => ∃ (k : Nat) (L : List Nat), k ≤ ns.length ∧ i = .int .i64 k ∧ Ring wr w.heap.size L (ns.take k) ∧ at_ L 0 = w.heap.size + 1 ∧ (∀ j, 1 ≤ j → j < L.length → w.heap.size + 1 + 1 < at_ L j) ∧ Held wr w.heap.size [.pointer none] ∧ Held wr (w.heap.size + 1 + 1) [.pointer (some ⟨w.heap.size + 1, 0, none⟩)] ∧ Below w.heap.size w wr) (fun i _ => ns.length - (intOf i).toNat)
  case atStart => exact ⟨0, [w.heap.size + 1], Nat.zero_le _, rfl, Ring.one (by omega) HI.out.res.1 (HI.out.res.of 4 _ rfl) (HI.out.res.of 5 _ rfl) HI.out.res.2.1 HP.out, rfl, fun j h1 h2 => by simp at h2; omega, HI.out.box, HI.out.out, HI.out.bel⟩
  case round =>
    clear HI HP
    obtain ⟨k, L, hk, rfl, hR, hL0, hLj, hH0, hH2, hb⟩ := hrel
    have c2 := hH2.of 0 _ rfl
    have c0 := hH0.of 0 _ rfl
    have f0 := hH0.2.1
    by_cases hlt : k < ns.length
    · obtain ⟨b, off, c', x, A1, c1, A2, c2', e1, hx, hB, d0, d1, d2, d3, hr⟩ := notes_at2 (HV.out _ hb) hlt
      injection e1 with e1a e1b e1c
      subst e1a
      have hz2 : w.heap.size + 1 + 1 < wr.heap.size := hH2.1
      have HA : Hid _ := Lib.hid fun o => add_any (wr.alloc o) w.heap.size L (ns.take k) _ x (hR.onward (belowOne wr o)) (noteSh.rbelow hr ((Below.refl _ wr).alloc hb.size o))
      rw [hL0] at HA
      unfold ptr at HA
      have HLn := Lib.hid hR.len
      have HL0 := Lib.hid hL0
      have HLj := Lib.hid hLj
      have HH0 := Lib.hid fun o => hH0.after o
      have HH2 := Lib.hid fun o => hH2.after o
      have HB := Lib.hid fun o => hb.alloc hb.size o
      have HX := Lib.hid hx
      have HLo := Lib.hid hR.lo
      clear e1b e1c hr hR hL0 hLj hH0 hH2 hx hb
      go_wp2_with fail
      refine (HA.out _).mono ?_
      rintro e w1 ⟨⟨v1, rfl⟩, b1, hb1, hR1, ho1⟩
      have hL : 0 < L.length := by have := HLn.out; omega
      have hnr : ∀ q, q = w.heap.size ∨ q = w.heap.size + 1 + 1 → ¬ InRing L q := by
        rintro q hq ⟨i, hi, e⟩
        rcases Nat.eq_zero_or_pos i with h' | h'
        · subst h'; have := HL0.out; omega
        · have := HLj.out i h' hi; omega
      have HN : Hid (Ring w1 w.heap.size (L ++ [b1]) (ns.take (k + 1)) ∧ at_ (L ++ [b1]) 0 = w.heap.size + 1 ∧ (∀ j, 1 ≤ j → j < (L ++ [b1]).length → w.heap.size + 1 + 1 < at_ (L ++ [b1]) j) ∧ Held w1 w.heap.size [.pointer none] ∧ Held w1 (w.heap.size + 1 + 1) [.pointer (some ⟨w.heap.size + 1, 0, none⟩)] ∧ Below w.heap.size w w1) := by
        refine Lib.hid ⟨by rw [take_snoc HX.out]; exact hR1, by rw [at_left hL]; exact HL0.out, fun j h1 h2 => ?_, (HH0.out _).outs ho1 (hnr _ (.inl rfl)), (HH2.out _).outs ho1 (hnr _ (.inr rfl)), ?_⟩
        · simp only [List.length_append, List.length_cons, List.length_nil] at h2
          rcases Nat.lt_or_ge j L.length with h' | h'
          · rw [at_left h']; exact HLj.out j h1 h'
          · rw [at_last (by omega)]; simp at hb1; omega
        · exact (HB.out _).trans (ho1.below (by have := (HB.out (.cells #[.int .i64 x.kind, .int .i64 x.tx, .slice A1 x.locks.length c1, .slice A2 x.writes.length c2'] 36)).size; exact this) (fun i ⟨j, hj, e⟩ => by have := HLo.out j hj; omega))
      clear hR1 ho1 hb1 hnr HA
      go_wp2
      go_roundw
      case rel => exact ⟨k + 1, L ++ [b1], by omega, by go_num, HN.out⟩
      case measure => simp [intOf]; omega
    · have HE : Hid (Ring wr w.heap.size L ns) := Lib.hid (by rw [show k = ns.length by omega, List.take_length] at hR; exact hR)
      have HH := Lib.hid hH0
      have HB := Lib.hid hb
      have HL0 := Lib.hid hL0
      have HLj := Lib.hid hLj
      clear hR hL0 hLj hH0 hH2 hb
      go_wp2
      have q0 := (HH.out.set_ (i := 0) (.pointer (some ⟨w.heap.size + 1, 0, none⟩))).of 0 _ rfl
      refine bodyPost_ret (v := .agg #[.pointer (some ⟨w.heap.size + 1, 0, none⟩)]) (by simp [results, Try.results61, go_sem, q0]) rfl ⟨L, by rw [HL0.out]; rfl, ?_, HB.out.setCell (Nat.le_refl _) _⟩
      have hsz : (wr.setCell ⟨w.heap.size, 0, none⟩ (.pointer (some ⟨w.heap.size + 1, 0, none⟩))).heap.size = wr.heap.size := by simp [World.setCell]
      have h0 := HE.out
      have hne : ∀ i, i < L.length → at_ L i ≠ w.heap.size := fun i hi e => by
        rcases Nat.eq_zero_or_pos i with h' | h'
        · subst h'; have := HL0.out; omega
        · have := HLj.out i h' hi; omega
      exact ⟨h0.len, h0.lo, h0.up, fun i hi => by rw [hsz]; exact h0.lt i hi,
        fun i hi => (World.cell?_setCell_other _ _ _ _ (by intro e; injection e with e1 _; exact hne i hi e1.symm)).trans (h0.prev i hi),
        fun i hi => (World.cell?_setCell_other _ _ _ _ (by intro e; injection e with e1 _; exact hne i hi e1.symm)).trans (h0.next i hi),
        fun i j hi => (World.frozen?_setCell _ _ _ _).trans (h0.free i j hi),
        fun i hi => (h0.blk i hi).set _ rfl _,
        fun i x hx => by
          obtain ⟨cs, h1, h2⟩ := h0.note i x hx
          have hi : i + 1 < L.length := by rw [h0.len]; have := (List.getElem?_eq_some_iff.1 hx).1; omega
          exact ⟨cs, noteSh.rkeep h1 fun q o hq => World.cell?_setCell_other _ _ _ _ (by intro e; injection e with e1 _; omega), fun j u hu => (World.cell?_setCell_other _ _ _ _ (by intro e; injection e with e1 _; exact hne (i + 1) hi e1.symm)).trans (h2 j u hu)⟩⟩

end Go.Proofs.Ytkamlibfcakblaa
