/- Texts that follow each other, merged: ListAt, OpenI, IOpen. -/
import Derived.Test.YtkamlibfcakblaaXListOf
import Derived.Test.YtkamlibfcakblaaXInDoubt
import Derived.Test.YtkamlibfcakblaaXCopyI
import Derived.Test.YtkamlibfcakblaaXCloneStr

/- listOf once more, where the notes lie ahead of more than they must. -/
namespace Go.Proofs.Ytkamlibfcakblaa
open Go.RowKit

/-- What listOf leaves. -/
def ListedAt (B : Nat) (ns : List Note) (w : World) (e : Ending) (w' : World) : Prop := ∃ L, e = .returned (.agg #[ptr (at_ L 0)]) ∧ Ring w' B L ns ∧ (∀ i, i < L.length → w.heap.size ≤ at_ L i) ∧ Below w.heap.size w w'

set_option maxRecDepth 100000 in
set_option maxHeartbeats 1000000 in
theorem listOf_at (w : World) (B : Nat) (v : Value) (ns : List Note) (hBw : B ≤ w.heap.size) (hv : noteSh.Row w B v ns) :
    Calls Try.prog 61 #[v] w (ListedAt B ns w) := by
  obtain ⟨A, c, rfl, hc2, hc1⟩ := hv.form
  unfold maxLen at hc2
  have HV := Lib.hid fun W (hb : Below w.heap.size w W) => hv.below (hb.mono hBw)
  clear hv
  have HI := Lib.hid (ToInv.start w #[.pointer none] #[.int .i64 0, .int .i64 0, .slice none 0 0, .slice none 0 0, .pointer (some ⟨w.heap.size + 1, 0, none⟩), .pointer (some ⟨w.heap.size + 1, 0, none⟩)] #[.pointer (some ⟨w.heap.size + 1, 0, none⟩)] 79 101 79)
  have HP := Lib.hid (Plain_.second w (.cells #[.pointer none] 79) (.cells #[.pointer (some ⟨w.heap.size + 1, 0, none⟩)] 79) #[.int .i64 0, .int .i64 0, .slice none 0 0, .slice none 0 0, .pointer (some ⟨w.heap.size + 1, 0, none⟩), .pointer (some ⟨w.heap.size + 1, 0, none⟩)] 101)
  go_enter Try.func61, Try.ntmps61
  go_wp2
  generalize (((w.alloc (.cells #[.pointer none] 79)).alloc (.cells #[.int .i64 0, .int .i64 0, .slice none 0 0, .slice none 0 0, .pointer (some ⟨w.heap.size + 1, 0, none⟩), .pointer (some ⟨w.heap.size + 1, 0, none⟩)] 101)).alloc (.cells #[.pointer (some ⟨w.heap.size + 1, 0, none⟩)] 79)) = w0 at *
  go_loopw [21] (fun i wr => ∃ (k : Nat) (L : List Nat), k ≤ ns.length ∧ i = .int .i64 k ∧ Ring wr B L (ns.take k) ∧ at_ L 0 = w.heap.size + 1 ∧ (∀ j, 1 ≤ j → j < L.length → w.heap.size + 1 + 1 < at_ L j) ∧ Held wr w.heap.size [.pointer none] ∧ Held wr (w.heap.size + 1 + 1) [.pointer (some ⟨w.heap.size + 1, 0, none⟩)] ∧ Below w.heap.size w wr) (fun i _ => ns.length - (intOf i).toNat)
  case atStart => exact ⟨0, [w.heap.size + 1], Nat.zero_le _, rfl, Ring.one (by omega) HI.out.res.1 (HI.out.res.of 4 _ rfl) (HI.out.res.of 5 _ rfl) HI.out.res.2.1 HP.out, rfl, fun j h1 h2 => by simp at h2; omega, HI.out.box, HI.out.out, HI.out.bel⟩
  case round =>
    clear HI HP
    obtain ⟨k, L, hk, rfl, hR, hL0, hLj, hH0, hH2, hb⟩ := hrel
    have c2 := hH2.of 0 _ rfl
    have c0 := hH0.of 0 _ rfl
    have f0 := hH0.2.1
    by_cases hlt : k < ns.length
    · obtain ⟨b, off, c', x, A1, c1, A2, c2', e1, hx, hB, d0, d1, d2, d3, hr⟩ := notes_at2 (HV.out _ hb) hlt
      injection e1 with e1a e1b e1c
      subst e1a
      have hz2 : w.heap.size + 1 + 1 < wr.heap.size := hH2.1
      have HA : Hid _ := Lib.hid fun o => add_any (wr.alloc o) B L (ns.take k) _ x (hR.onward (belowOne wr o)) (noteSh.rbelow hr (((Below.refl _ wr).alloc hb.size o).mono hBw))
      rw [hL0] at HA
      unfold ptr at HA
      have HLn := Lib.hid hR.len
      have HL0 := Lib.hid hL0
      have HLj := Lib.hid hLj
      have HH0 := Lib.hid fun o => hH0.after o
      have HH2 := Lib.hid fun o => hH2.after o
      have HB := Lib.hid fun o => hb.alloc hb.size o
      have HX := Lib.hid hx
      have HLo : Hid (∀ j, j < L.length → w.heap.size ≤ at_ L j) := Lib.hid fun j hj => by
        rcases Nat.eq_zero_or_pos j with h' | h'
        · subst h'; omega
        · have := hLj j h' hj; omega
      clear e1b e1c hr hR hL0 hLj hH0 hH2 hx hb
      go_wp2_with fail
      refine (HA.out _).mono ?_
      rintro e w1 ⟨⟨v1, rfl⟩, b1, hb1, hR1, ho1⟩
      have hL : 0 < L.length := by have := HLn.out; omega
      have hnr : ∀ q, q = w.heap.size ∨ q = w.heap.size + 1 + 1 → ¬ InRing L q := by
        rintro q hq ⟨i, hi, e⟩
        rcases Nat.eq_zero_or_pos i with h' | h'
        · subst h'; have := HL0.out; omega
        · have := HLj.out i h' hi; omega
      have HN : Hid (Ring w1 B (L ++ [b1]) (ns.take (k + 1)) ∧ at_ (L ++ [b1]) 0 = w.heap.size + 1 ∧ (∀ j, 1 ≤ j → j < (L ++ [b1]).length → w.heap.size + 1 + 1 < at_ (L ++ [b1]) j) ∧ Held w1 w.heap.size [.pointer none] ∧ Held w1 (w.heap.size + 1 + 1) [.pointer (some ⟨w.heap.size + 1, 0, none⟩)] ∧ Below w.heap.size w w1) := by
        refine Lib.hid ⟨by rw [take_snoc HX.out]; exact hR1, by rw [at_left hL]; exact HL0.out, fun j h1 h2 => ?_, (HH0.out _).outs ho1 (hnr _ (.inl rfl)), (HH2.out _).outs ho1 (hnr _ (.inr rfl)), ?_⟩
        · simp only [List.length_append, List.length_cons, List.length_nil] at h2
          rcases Nat.lt_or_ge j L.length with h' | h'
          · rw [at_left h']; exact HLj.out j h1 h'
          · rw [at_last (by omega)]; simp at hb1; omega
        · exact (HB.out _).trans (ho1.below (by have := (HB.out (.cells #[.int .i64 x.kind, .int .i64 x.tx, .slice A1 x.locks.length c1, .slice A2 x.writes.length c2'] 36)).size; exact this) (fun i ⟨j, hj, e⟩ => by have := HLo.out j hj; omega))
      clear hR1 ho1 hb1 hnr HA
      go_wp2
      go_roundw
      case rel => exact ⟨k + 1, L ++ [b1], by omega, by go_num, HN.out⟩
      case measure => simp [intOf]; omega
    · have HE : Hid (Ring wr B L ns) := Lib.hid (by rw [show k = ns.length by omega, List.take_length] at hR; exact hR)
      have HH := Lib.hid hH0
      have HB := Lib.hid hb
      have HL0 := Lib.hid hL0
      have HLj := Lib.hid hLj
      clear hR hL0 hLj hH0 hH2 hb
      go_wp2
      have q0 := (HH.out.set_ (i := 0) (.pointer (some ⟨w.heap.size + 1, 0, none⟩))).of 0 _ rfl
      refine bodyPost_ret (v := .agg #[.pointer (some ⟨w.heap.size + 1, 0, none⟩)]) (by simp [results, Try.results61, go_sem, q0]) rfl ⟨L, by rw [HL0.out]; rfl, ?_, (fun i hi => by
        rcases Nat.eq_zero_or_pos i with h' | h'
        · subst h'; have := HL0.out; omega
        · have := HLj.out i h' hi; omega), HB.out.setCell (Nat.le_refl _) _⟩
      have hsz : (wr.setCell ⟨w.heap.size, 0, none⟩ (.pointer (some ⟨w.heap.size + 1, 0, none⟩))).heap.size = wr.heap.size := by simp [World.setCell]
      have h0 := HE.out
      have hne : ∀ i, i < L.length → at_ L i ≠ w.heap.size := fun i hi e => by
        rcases Nat.eq_zero_or_pos i with h' | h'
        · subst h'; have := HL0.out; omega
        · have := HLj.out i h' hi; omega
      exact ⟨h0.len, h0.lo, h0.up, fun i hi => by rw [hsz]; exact h0.lt i hi,
        fun i hi => (World.cell?_setCell_other _ _ _ _ (by intro e; injection e with e1 _; exact hne i hi e1.symm)).trans (h0.prev i hi),
        fun i hi => (World.cell?_setCell_other _ _ _ _ (by intro e; injection e with e1 _; exact hne i hi e1.symm)).trans (h0.next i hi),
        fun i j hi => (World.frozen?_setCell _ _ _ _).trans (h0.free i j hi),
        fun i hi => (h0.blk i hi).set _ rfl _,
        fun i x hx => by
          obtain ⟨cs, h1, h2⟩ := h0.note i x hx
          have hi : i + 1 < L.length := by rw [h0.len]; have := (List.getElem?_eq_some_iff.1 hx).1; omega
          exact ⟨cs, noteSh.rkeep h1 fun q o hq => World.cell?_setCell_other _ _ _ _ (by intro e; injection e with e1 _; omega), fun j u hu => (World.cell?_setCell_other _ _ _ _ (by intro e; injection e with e1 _; exact hne (i + 1) hi e1.symm)).trans (h2 j u hu)⟩⟩

end Go.Proofs.Ytkamlibfcakblaa

/- Numbers sought among numbers, of the program and of the model; rows that a round grows. -/
namespace Go.Proofs.Ytkamlibfcakblaa
open Go.RowKit Go.Shelf

set_option maxRecDepth 100000 in
theorem indexI_any (w : World) (B : Nat) (v : Value) (xs : List Int) (n : Int) (hv : Ints w B v xs) :
    Calls Try.prog 113 #[v, .int .i64 n] w fun e w' => (∃ i : Int, e = .returned (.int .i64 i) ∧ memB xs n = decide (0 ≤ i)) ∧ w = w' := by
  obtain ⟨A, c, rfl, hc1, hc2, hrow⟩ := hv
  unfold maxLen at hc2
  go_enter Try.func113, Try.ntmps113
  go_wp2
  go_loop [8] (fun i => ∃ k : Nat, k ≤ xs.length ∧ i = .int .i64 k ∧ NoneTo xs n k) (fun i => xs.length - (intOf i).toNat)
  case atStart => exact ⟨0, Nat.zero_le _, rfl, NoneTo.start xs n⟩
  case round =>
    obtain ⟨k, hk, rfl, hs⟩ := hrel
    by_cases hlt : k < xs.length
    · obtain ⟨b, off, rfl, hB, hcell⟩ := hrow (by omega)
      have hck := hcell k hlt
      clear hcell hrow
      by_cases hn : nth xs k = n
      · have HM := Lib.hid (memB_at hlt hn)
        have hb1 : (n == nth xs k) = true := by simp [hn]
        clear hn
        go_wp2
        go_ret
        exact ⟨⟨_, rfl, by rw [HM.out]; simp⟩, rfl⟩
      · have HS := Lib.hid (hs.step hn)
        have hb1 : (n == nth xs k) = false := by simp [Ne.symm hn]
        clear hn
        go_wp2
        go_round
        case rel => exact ⟨k + 1, by omega, by go_num, HS.out⟩
        case measure => simp [intOf]; omega
    · have hks : k = xs.length := by omega
      have HM := Lib.hid (NoneTo.all (hks ▸ hs : NoneTo xs n xs.length))
      clear hks hrow
      go_wp2
      go_ret
      exact ⟨⟨_, rfl, by rw [HM.out]; simp⟩, rfl⟩
set_option maxRecDepth 100000 in
theorem containsI_any (w : World) (B : Nat) (v : Value) (xs : List Int) (n : Int) (hv : Ints w B v xs) :
    Calls Try.prog 72 #[v, .int .i64 n] w fun e w' => e = .returned (.bool (memB xs n)) ∧ w = w' := by
  go_enter Try.func72, Try.ntmps72
  go_wp2_with fail
  refine (indexI_any _ _ _ _ _ hv).mono ?_
  rintro e w' ⟨⟨i, rfl, hi⟩, rfl⟩
  have HI := Lib.hid hi
  clear hi hv
  go_wp2
  go_ret
  exact ⟨ret_bool HI.out.symm, rfl⟩
set_option maxRecDepth 100000 in
theorem l2Is_any (w : World) (B : Nat) (v : Value) (xs : List Int) (n : Int) (hv : Ints w B v xs) :
    Calls Try.prog 74 #[v, .int .i64 n] w fun e w' => e = .returned (.bool (memB xs n)) ∧ w = w' := by
  obtain ⟨A, c, rfl, hc1, hc2, hrow⟩ := hv
  unfold maxLen at hc2
  go_enter Try.func74, Try.ntmps74
  go_wp2
  go_loop [5] (fun i => ∃ k : Nat, k ≤ xs.length ∧ i = .int .i64 k ∧ NoneTo xs n k) (fun i => xs.length - (intOf i).toNat)
  case atStart => exact ⟨0, Nat.zero_le _, rfl, NoneTo.start xs n⟩
  case round =>
    obtain ⟨k, hk, rfl, hs⟩ := hrel
    by_cases hlt : k < xs.length
    · obtain ⟨b, off, rfl, hB, hcell⟩ := hrow (by omega)
      have hck := hcell k hlt
      clear hcell hrow
      by_cases hn : nth xs k = n
      · have HM := Lib.hid (memB_at hlt hn)
        have hb1 : (nth xs k == n) = true := by simp [hn]
        clear hn
        go_wp2
        go_ret
        exact ⟨ret_bool HM.out.symm, rfl⟩
      · have HS := Lib.hid (hs.step hn)
        have hb1 : (nth xs k == n) = false := by simp [hn]
        clear hn
        go_wp2
        go_round
        case rel => exact ⟨k + 1, by omega, by go_num, HS.out⟩
        case measure => simp [intOf]; omega
    · have hks : k = xs.length := by omega
      have HM := Lib.hid (NoneTo.all (hks ▸ hs : NoneTo xs n xs.length))
      clear hks hrow
      go_wp2
      go_ret
      exact ⟨ret_bool HM.out.symm, rfl⟩

/-- A row that rounds grow: its block, what it has, and that it lies behind all that was there when the first round began. -/
structure RowW {α : Type} (A : Sh α) (e : TypeId) (w W0 : World) (ob t : Nat) (xs : List α) (W : World) : Prop where
  row : ∃ v S, Held W ob [v] ∧ A.Own e W S v xs ∧ ∀ b, S b → t ≤ b ∧ b < W.heap.size
  bel : Below w.heap.size W0 W
  size : t ≤ W.heap.size
theorem RowW.turned {α : Type} {A : Sh α} (hA : A.Tight) {e : TypeId} {w W0 : World} {ob t : Nat} {xs : List α} {W W' : World} {row : Option Nat} (h : RowW A e w W0 ob t xs W) (ho : ob < W0.heap.size) (hw : w.heap.size ≤ W0.heap.size) (hg : W.grownBy W' row) (hr : ∀ r, row = some r → W0.heap.size ≤ r ∧ ∃ o : Obj, W.heap[r]? = some o ∧ o.isCells = false) : RowW A e w W0 ob t xs W' := by
  have hz := h.bel.size
  have hb : Below W0.heap.size W W' := (Below.refl _ W).grown hg hz (fun k e => (hr k e).1)
  obtain ⟨v, S, h1, h2, h3⟩ := h.row
  exact ⟨⟨v, S, h1.below hb ho, h2.turned hA hg (fun r e => (hr r e).2), fun b hb' => ⟨(h3 b hb').1, Nat.lt_of_lt_of_le (h3 b hb').2 hg.size⟩⟩, h.bel.trans (hb.mono hw), Nat.le_trans h.size hb.size⟩
theorem RowW.below {α : Type} {A : Sh α} {e : TypeId} {w W0 : World} {ob t : Nat} {xs : List α} {W W' : World} (h : RowW A e w W0 ob t xs W) (ho : ob < W.heap.size) (hw : w.heap.size ≤ W0.heap.size) (hb : Below W.heap.size W W') : RowW A e w W0 ob t xs W' := by
  obtain ⟨v, S, h1, h2, h3⟩ := h.row
  exact ⟨⟨v, S, h1.below hb ho, h2.below hb, fun b hb' => ⟨(h3 b hb').1, Nat.lt_of_lt_of_le (h3 b hb').2 hb.size⟩⟩, h.bel.trans (hb.mono (Nat.le_trans hw h.bel.size)), Nat.le_trans h.size hb.size⟩
theorem RowW.start {α : Type} {A : Sh α} {e : TypeId} {w W0 : World} {ob : Nat} {X : World} (h : Held W0 ob [.slice none 0 0]) (hX : Below W0.heap.size W0 X) (hw : w.heap.size ≤ W0.heap.size) : RowW A e w W0 ob X.heap.size [] X :=
  ⟨⟨_, fun _ => False, h.below hX h.1, Sh.Own.nil _ _, fun _ h => h.elim⟩, hX.mono hw, Nat.le_refl _⟩

theorem Held.turned {W W' : World} {row : Option Nat} {k : Nat} {cs : List Value} (h : Held W k cs) (h0 : 0 < cs.length) (hg : W.grownBy W' row) (hr : ∀ r, row = some r → ∃ o : Obj, W.heap[r]? = some o ∧ o.isCells = false) : Held W' k cs := by
  refine h.outs (Outs.of_grown (S := fun b => row = some b) hg fun q hq => hq) fun hk => ?_
  obtain ⟨o, ho, hc⟩ := hr k hk
  have hcell := h.2.2 0 _ (List.getElem?_eq_getElem h0)
  unfold World.cell? at hcell
  dsimp only at hcell
  rw [ho] at hcell
  cases o <;> simp_all [Obj.isCells]
/-- A row that has grown, laid down again. -/
theorem RowW.grown {α : Type} {A : Sh α} {e : TypeId} {w W0 : World} {ob t : Nat} {xs ys : List α} {Z Z1 Z2 : World} {v v' : Value} {S S' : Nat → Prop} (hown : A.Own e Z S v xs) (hS : ∀ b, S b → t ≤ b ∧ b < Z.heap.size) (hbel : Below w.heap.size W0 Z) (hto : ob < t) (htz : t ≤ Z.heap.size) (hwo : w.heap.size ≤ ob)
    (hb : Below Z.heap.size Z Z1) (hS' : ∀ b, S' b → Z.heap.size ≤ b ∧ b < Z1.heap.size) (hob : Held Z2 ob [v]) (ho : A.Own e Z2 (fun b => S b ∨ S' b ∨ b = Z1.heap.size) v' ys) (hg : Z1.grownBy Z2 v.ownBlock) :
    Calm (fun b => b = ob ∨ t ≤ b) Z (Z2.setCell ⟨ob, 0, none⟩ v') ∧ RowW A e w W0 ob t ys (Z2.setCell ⟨ob, 0, none⟩ v') := by
  have hown1 : A.Own e Z1 S v xs := hown.below hb
  have hr : ∀ q, v.ownBlock = some q → t ≤ q := fun q hq => (hS _ (hown.blk q hq)).1
  have hz1 := hb.size
  have hz2 := hg.size
  have hC : Calm (fun b => b = ob ∨ t ≤ b) Z (Z2.setCell ⟨ob, 0, none⟩ v') :=
    ((Calm.below hb).trans ⟨Outs.of_grown hg (fun q hq => .inr (hr q hq)), keepsOthers_grown hg hown1.cells⟩).trans (Calm.set _ _ _ (.inl rfl))
  refine ⟨hC, ⟨v', _, hob.set_ (i := 0) _, ho.cap.keep fun b hb' _ => Below.heap_setCell _ _ _ _ ?_, fun b hb' => ⟨?_, by simpa [World.setCell] using hb'.2⟩⟩, hbel.trans (((hb.mono (by omega)).grown hg (by omega) (fun q hq => by have := hr q hq; omega)).setCell (p := ⟨ob, 0, none⟩) hwo _), ?_⟩
  · rcases hb'.1 with h | h | h
    · have := (hS b h).1; show b ≠ ob; omega
    · have := (hS' b h).1; show b ≠ ob; omega
    · show b ≠ ob; omega
  · rcases hb'.1 with h | h | h
    · exact (hS b h).1
    · have := (hS' b h).1; omega
    · omega
  · have h1 : (Z2.setCell ⟨ob, 0, none⟩ v').heap.size = Z2.heap.size := by simp [World.setCell]
    omega

theorem callsIn_any {F : Fence} (hF : F = Fence.wide) {n : Nat} {P : Program} {f : FuncId} {args : Array Value} {w : World} {R : Ending → World → Prop} (h : Calls P f args w R) : CallsIn F n P f args w R := by
  subst hF; exact callsIn_wide.2 h
theorem callsIn_anyR {F : Fence} (hF : F = Fence.wide) {n l : Nat} {P : Program} {f : FuncId} {args : Array Value} {w : World} {R : Ending → World → Prop} (h : Calls P f args w R) : CallsIn (F.inRound l) n P f args w R := by
  subst hF; exact callsIn_round h
/-- An operation within a round, as outside one. -/
theorem wplIn_of {F : Fence} (hF : F = Fence.wide) {n l : Nat} {P : Program} {ops : Array Oper} {rest : List Oper} {o : Oper} {a : Act} {w : World} {Q : Exit → Act → World → Prop} (hgd : o.guard = none) (hd : ∀ c, o.op ≠ .defer c)
    (h : ∀ K : Act → World → Prop, (∀ a w, wpListIn (F.inRound l) n P ops Q rest a w → K a w) → o.wp P a w K Q) : wpListIn (F.inRound l) n P ops Q (o :: rest) a w := by
  subst hF
  exact wpListIn_plain hgd fun K hK => wpIn_of_wp hd (h K hK)

end Go.Proofs.Ytkamlibfcakblaa

/- What DiskOpen answers, of the program. -/
namespace Go.Proofs.Ytkamlibfcakblaa
open Go.RowKit Go.Shelf

attribute [local go_sem] Oper.semAt_some

theorem spots_filter (ns : List Note) (p : Note → Bool) : ((upto ns.length ns.length (Nat.le_refl _)).filter fun y => p (noteAt ns y)).map (noteAt ns) = ns.filter p := by
  have h : ((upto ns.length ns.length (Nat.le_refl _)).filter fun y => p (noteAt ns y)).map (noteAt ns) = ((upto ns.length ns.length (Nat.le_refl _)).map (noteAt ns)).filter p := by rw [List.filter_map]; rfl
  rw [h, upto_notes]

set_option maxRecDepth 100000 in
set_option maxHeartbeats 20000000 in
theorem implDiskOpen_any (w : World) (cs : List Value) (x : Disk) (h : diskSh.rel w w.heap.size cs x) :
    Calls Try.prog 20 #[.agg cs.toArray] w (CopiedSl Sh.int 3 (openD x) w) := by
  refine (callsIn_wide (n := 9)).1 ?_
  obtain ⟨F, hF⟩ : ∃ F, F = Fence.wide := ⟨_, rfl⟩
  have hro : F.round = none := by rw [hF]; rfl
  have hfn : ∀ f, F.fn f := by rw [hF]; exact fun _ => trivial
  rw [← hF]
  have HFw := Lib.hid hF
  clear hF
  have HH := Lib.hid fun W (hb : Below w.heap.size w W) => diskSh.rmore (diskSh.rbelow h hb) hb.size
  obtain ⟨u, rfl, hu⟩ := disk_rel.1 h
  obtain ⟨Au, cu, rfl, hcu, hnu⟩ := hu.form
  have HU := Lib.hid fun W (hb : Below w.heap.size w W) => hu.below hb
  have HX := Lib.hid (Held.new w #[.slice Au x.notes.length cu, .int .i64 x.safe] 25)
  have HW := Lib.hid (belowOne w (.cells #[.slice Au x.notes.length cu, .int .i64 x.safe] 25))
  have hd1 : 1 ≤ 9 := by omega
  clear h hu
  refine callsIn_of_wp_marks Try.func20 rfl (hfn _) ?_ hro
  simp only [Try.ntmps20, List.size_toArray, List.length_cons, List.length_nil, Nat.reduceAdd, Nat.reduceSub, Array.replicate_succ, Array.replicate_zero, List.push_toArray, List.append_toArray, List.nil_append, List.cons_append]
  gi_wp2_with fail
  gi_at_call 60
  refine (callsIn_any HFw.out (implDiskOk_any _ _ x (HH.out _ HW.out))).mono ?_
  rintro e w1 ⟨rfl, hb⟩
  replace HX := Lib.hid (HX.out.below hb HX.out.1)
  replace HW := Lib.hid (belowNext HW.out hb)
  clear hb
  have x0 := HX.out.of 0 _ rfl
  rcases hd : diskB x
  · have HO := Lib.hid (openD_no hd)
    gi_wp2
    refine ⟨.slice none 0 0, ?_, _, rfl, by rw [HO.out]; exact Sh.Own.nil _ _, HW.out⟩
    simp [results, Try.f20, go_sem]
  · have HO := Lib.hid (openD_yes hd)
    have HN := Lib.hid (diskB_parts hd).1
    clear hd
    have HX1 := Lib.hid (HX.out.after (.cells #[.slice none 0 0] 39))
    have HO1 := Lib.hid (Held.new w1 #[.slice none 0 0] 39)
    have HW1 := Lib.hid (HW.out.alloc HW.out.size (.cells #[.slice none 0 0] 39))
    have HZ1 := Lib.hid (allocSize w1 (.cells #[.slice none 0 0] 39))
    have y0 := HX1.out.of 0 _ rfl
    gi_wp2_with fail
    gi_at_call 61
    refine (callsIn_any HFw.out (listOf_at _ w.heap.size _ x.notes HW1.out.size (HU.out _ HW1.out))).mono ?_
    rintro e w2 ⟨L, rfl, hR, hLo, hb2⟩
    have HR := Lib.hid hR
    have HLo := Lib.hid hLo
    have HB2 := Lib.hid hb2
    clear hR hLo hb2 y0 x0
    unfold ptr
    gi_wp2_with fail
    gi_at_call 71
    refine (show CallsIn F _ Try.prog 71 #[.agg #[.pointer (some ⟨at_ L 0, 0, none⟩)]] w2 _ from inDoubt_in F _ (hfn _) hro (at_ L 0) w2).mono ?_
    rintro e w3 ⟨rfl, rfl⟩
    unfold ptr
    gi_wp2_with fail
    have hz2 := HB2.out.size
    have hz1 := HZ1.out
    have hzw := HW.out.size
    obtain ⟨W0, hW0⟩ : ∃ W0, w2.alloc (.cells #[.pointer (some ⟨at_ L 0, 0, none⟩)] 79) = W0 := ⟨_, rfl⟩
    have hal := belowOne w2 (.cells #[.pointer (some ⟨at_ L 0, 0, none⟩)] 79)
    have HM := Lib.hid (Held.new w2 #[.pointer (some ⟨at_ L 0, 0, none⟩)] 79)
    have hzW := allocSize w2 (.cells #[.pointer (some ⟨at_ L 0, 0, none⟩)] 79)
    rw [hW0] at hal hzW HM ⊢
    have HOb := Lib.hid ((HO1.out.below HB2.out HO1.out.1).below hal (by omega))
    have HR0 := Lib.hid (HR.out.onward hal)
    have HW0 := Lib.hid (HW1.out.trans ((HB2.out.trans (hal.mono hz2)).mono HW1.out.size))
    have hlt : ∀ i, i < L.length → at_ L i < w2.heap.size := HR.out.lt
    have hlo : ∀ i, i < L.length → w1.heap.size + 1 ≤ at_ L i := fun i hi => by have := HLo.out i hi; omega
    clear hal hW0
    have HGo : Hid (Goes F 8 Try.prog 112 #[.pointer (some ⟨w2.heap.size, 0, none⟩)] (fun y : Spot x.notes.length => #[noteV W0 L y.1]) (fun b => b = w1.heap.size) ((upto x.notes.length x.notes.length (Nat.le_refl _)).filter fun y => openB x.notes (noteAt x.notes y)) x.notes.length W0) := Lib.hid (by
      rw [HFw.out]
      exact inDoubt1_goes 8 (by omega) w2.heap.size w.heap.size (fun b => b = w1.heap.size) L x.notes W0 (by omega) (by omega) (HM.out.of 0 _ rfl) HR0.out (fun i hi => by have := hlo i hi; omega) (fun b hb => by have := HX.out.1; omega) (fun b hb => by omega))
    refine wpIn_goes (f := 112) (lb := #[.pointer (some ⟨w2.heap.size, 0, none⟩)]) hro (by omega) rfl (hfn _) (enters_of Try.func112 (by kernel_rfl) rfl)
      HGo.out (Below.refl _ _) ?hps
      (fun t pre Z => RowW Sh.int 3 w W0 w1.heap.size t (opensTx (pre.map (noteAt x.notes))) Z)
      (fun t => fun pre A A' row hA hg hr => hA.turned tight_int (by omega) (by omega) hg (fun r e => by obtain ⟨h1, o, h2⟩ := hr r e; exact ⟨by omega, o, h2⟩))
      (fun X hX => RowW.start HOb.out hX (by omega))
      (fun t y b Z => ∃ k A1 c1 A2 c2, b = { tmps := #[.agg #[.slice Au x.notes.length cu, .int .i64 x.safe], .pointer (some ⟨w.heap.size, 0, none⟩), .slice none 0 0, .pointer (some ⟨w1.heap.size, 0, none⟩), .pointer (some ⟨k, 0, none⟩), .agg #[.slice Au x.notes.length cu, .int .i64 x.safe], .bool true, .bool false, .pointer (some ⟨w.heap.size, 0, none⟩), .slice Au x.notes.length cu, .agg #[.pointer (some ⟨at_ L 0, 0, none⟩)], .func (.func 112) #[] #[.pointer (some ⟨w2.heap.size, 0, none⟩)], .agg #[.int .i64 (noteAt x.notes y).kind, .int .i64 (noteAt x.notes y).tx, .slice A1 (noteAt x.notes y).locks.length c1, .slice A2 (noteAt x.notes y).writes.length c2], undef, undef, undef, undef, undef, undef, undef, undef, undef, undef, undef], defers := [] }
        ∧ Held Z k [.int .i64 (noteAt x.notes y).kind, .int .i64 (noteAt x.notes y).tx, .slice A1 (noteAt x.notes y).locks.length c1, .slice A2 (noteAt x.notes y).writes.length c2])
      ?hAx ?assign ?body ?done
    case hps => exact fun _ => rfl
    case hAx =>
      rintro t y b _ A A' row ⟨k, A1, c1, A2, c2, e, hH⟩ hg hr
      exact ⟨k, A1, c1, A2, c2, e, hH.turned (by simp) hg (fun r e => (hr r e).2)⟩
    case assign =>
      intro l' t pre y Z ht hI
      obtain ⟨n, A1, c1, A2, c2, hy, q0, q1, q2, q3, hrel⟩ := HR0.out.at_ (k := y.1 - 1) (by have := y.2; omega)
      have hxe : y.1 - 1 + 1 = y.1 := by have := y.2; omega
      rw [hxe] at q0 q1 q2 q3
      have hyn : noteAt x.notes y = n := noteAt_get hy hxe.symm
      have hnv := noteV_at (w := W0) rfl q0 q1 q2 q3
      have HI := Lib.hid hI
      have HYn := Lib.hid hyn
      clear hI hy hxe hrel hyn q0 q1 q2 q3
      dsimp only
      rw [hnv]
      clear hnv
      gi_wp2
      have hbz := HI.out.bel.size
      refine ⟨Calm.below (belowOne _ _), HI.out.below (by omega) (by omega) (belowOne _ _), Z.heap.size, A1, c1, A2, c2, by rw [HYn.out]; simp, by rw [HYn.out]; exact Held.new _ _ _⟩
    case body =>
      rintro l' t pre y b Z ht hI hpn ⟨k, A1, c1, A2, c2, rfl, hH⟩
      obtain ⟨v, S, h1, h2, h3⟩ := hI.row
      obtain ⟨Av, cv, rfl, hcv, hlv⟩ := h2.row.form
      have hlen : (opensTx (pre.map (noteAt x.notes))).length ≤ pre.length := by have := opensTx_len (pre.map (noteAt x.notes)); rwa [List.length_map] at this
      have hxn := HN.out
      have hsn : opensTx ((pre ++ [y]).map (noteAt x.notes)) = addI (opensTx (pre.map (noteAt x.notes))) (noteAt x.notes y).tx := by rw [List.map_append, List.map_cons, List.map_nil, opensTx_snoc]
      obtain ⟨os, hos⟩ : ∃ os, opensTx (pre.map (noteAt x.notes)) = os := ⟨_, rfl⟩
      obtain ⟨n, hn⟩ : ∃ n, noteAt x.notes y = n := ⟨_, rfl⟩
      rw [hos] at h1 h2 hlen hsn hlv
      rw [hn] at hsn
      have HI := Lib.hid hI
      have HSn := Lib.hid hsn
      have H2 := Lib.hid h2
      have H3 := Lib.hid h3
      have HNn := Lib.hid hn
      have HOs := Lib.hid hos
      rw [hn] at hH
      simp only [hn]
      have p0 := h1.of 0 _ rfl
      have pf := h1.2.1 0
      have t1 := hH.of 1 _ rfl
      have H1 := Lib.hid h1
      clear hI hsn h2 h3 hn hos h1 hH
      gi_wp2_with fail
      gi_at_call 72
      refine (callsIn_anyR HFw.out (containsI_any _ _ _ _ _ (ints_row.1 H2.out.row))).mono ?_
      rintro e w' ⟨rfl, rfl⟩
      rcases hm : memB os n.tx
      · have HA := Lib.hid (addI_new hm)
        clear hm
        have hyZ : Sh.int.own (Z.alloc (.cells #[.int .i64 n.tx] 3)) (fun _ => False) [.int .i64 n.tx] n.tx := rfl
        have HB1 := Lib.hid (belowOne Z (.cells #[.int .i64 n.tx] 3))
        have HS1 := Lib.hid (Held.new Z #[.int .i64 n.tx] 3)
        have HOw := Lib.hid (H2.out.below HB1.out)
        gi_wp2_with (gi_at_builtin; refine wplIn_of HFw.out rfl (by intro c h; cases h) fun K hK => app_one Sh.int 39 3 (.int .i64 0) 8 Try.underlying39 infoInt rfl (by decide) (by omega) (.tmp 18) (.tmp 21) rfl S (fun _ => False) (.slice Av os.length cv) os rfl HOw.out Z.heap.size rfl _ n.tx hyZ HS1.out (fun _ _ h => h) (by omega) ?_; intro v' Z2 ho2 hg2 _; obtain ⟨A3, c3, hf3, -, -⟩ := ho2.row.form; rw [List.length_append, List.length_singleton] at hf3; subst hf3; have HR2 := Lib.hid ((H1.out.below HB1.out H1.out.1).outs (Outs.of_grown (S := S) hg2 (fun q hq => HOw.out.blk q hq)) (fun h => by have := (H3.out _ h).1; omega)); have f2 := HR2.out.2.1 0; have r2 := HR2.out.of 0 _ rfl; have HO2 := Lib.hid ho2; have HG2 := Lib.hid hg2; clear ho2 hg2; refine hK _ _ ?_; clear hK K)
        obtain ⟨g1, g2⟩ := RowW.grown (t := t) (ys := os ++ [n.tx]) H2.out H3.out HI.out.bel (by omega) HI.out.size (by omega) HB1.out (fun b h => h.elim) HR2.out HO2.out HG2.out
        exact ⟨g1, by dsimp only; rw [HSn.out, HA.out]; exact g2⟩
      · have HA := Lib.hid (addI_in hm)
        clear hm
        gi_wp2
        exact ⟨Calm.refl _ _, by dsimp only; rw [HSn.out, HA.out, ← HOs.out]; exact HI.out⟩
    case done =>
      rintro D t Z hD ht hI hDf
      obtain ⟨v, S, h1, h2, h3⟩ := hI.row
      have hfn : opensTx (((upto x.notes.length x.notes.length (Nat.le_refl _)).filter fun y => openB x.notes (noteAt x.notes y)).map (noteAt x.notes)) = openD x := by
        rw [HO.out, inD_all, spots_filter]
      rw [hfn] at h2
      obtain ⟨Av, cv, rfl, hcv, hlv⟩ := h2.row.form
      have r0 := h1.of 0 _ rfl
      have HI := Lib.hid hI
      have HD := Lib.hid hDf
      have H1 := Lib.hid h1
      have H2 := Lib.hid h2
      have H3 := Lib.hid h3
      clear hI hDf h1 h2 h3 hfn
      gi_wp2
      refine ⟨by simp, .inl ⟨_, _, rfl, run_takeDeferred HD.out, ?_⟩⟩
      refine ⟨.slice Av (openD x).length cv, ?_, _, rfl, (H2.out.turned tight_int (grownBy_putObj' _ D (.deferred none)) (fun r e => by cases e; exact ⟨_, HD.out, rfl⟩)).mono fun b hb => ⟨by have := (H3.out b hb).1; omega, Nat.lt_of_lt_of_le (H3.out b hb).2 (grownBy_putObj' Z D (.deferred none)).size⟩, ?_⟩
      · simp [results, Try.f20, go_sem]
      · exact (HW0.out.trans HI.out.bel).trans (belowK_b (w := w) (Nat.le_refl _) Z D _ _ (by omega) HD.out rfl rfl)

end Go.Proofs.Ytkamlibfcakblaa
