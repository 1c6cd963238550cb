/- The notes of a ring, copied: what (noteList).disk answers. -/
import Derived.Test.YtkamlibfcakblaaXLastKind
import Derived.Test.YtkamlibfcakblaaXCopyNote
import Derived.Test.YtkamlibfcakblaaXTight
import Derived.Test.YtkamlibfcakblaaXCopyI
namespace Go.Proofs.Ytkamlibfcakblaa
open Go.RowKit Go.Shelf

attribute [local go_sem] Oper.semAt_some

theorem Ring.outs {w w' : World} {B : Nat} {L : List Nat} {ns : List Note} {S : Nat → Prop} (h : Ring w B L ns) (k : Outs S w w') (hB : ∀ b, b < B → ¬ S b) (hL : ∀ i, i < L.length → ¬ S (Go.Proofs.Ytkamlibfcakblaa.at_ L i)) : Ring w' B L ns where
  len := h.len
  lo := h.lo
  up := h.up
  lt i hi := Nat.lt_of_lt_of_le (h.lt i hi) k.size
  prev i hi := (World.cell?_of_block (a := ⟨Go.Proofs.Ytkamlibfcakblaa.at_ L i, 4, none⟩) (k.block _ (h.lt i hi) (hL i hi))).trans (h.prev i hi)
  next i hi := (World.cell?_of_block (a := ⟨Go.Proofs.Ytkamlibfcakblaa.at_ L i, 5, none⟩) (k.block _ (h.lt i hi) (hL i hi))).trans (h.next i hi)
  free i j hi := (World.frozen?_of_block (a := ⟨Go.Proofs.Ytkamlibfcakblaa.at_ L i, j, none⟩) (k.block _ (h.lt i hi) (hL i hi))).trans (h.free i j hi)
  blk i hi := by
    obtain ⟨ca, ta, e⟩ := h.blk i hi
    exact ⟨ca, ta, (k.block _ (h.lt i hi) (hL i hi)).trans e⟩
  note i x hx := by
    obtain ⟨cs, h1, h2⟩ := h.note i x hx
    have hi : i + 1 < L.length := by rw [h.len]; have := (List.getElem?_eq_some_iff.1 hx).1; omega
    have hs := h.size
    exact ⟨cs, noteSh.rkeep h1 fun b o hb => World.cell?_of_block (a := ⟨b, o, none⟩) (k.block b (by omega) (hB b hb)), fun j u hu => (World.cell?_of_block (a := ⟨Go.Proofs.Ytkamlibfcakblaa.at_ L (i + 1), j, none⟩) (k.block _ (h.lt _ hi) (hL _ hi))).trans (h2 j u hu)⟩
theorem Outs.cell {S : Nat → Prop} {w w' : World} (k : Outs S w w') {b o : Nat} {u : Value} (hb : ¬ S b) (h : w.cell? ⟨b, o, none⟩ = some u) : w'.cell? ⟨b, o, none⟩ = some u := by
  have hlt : b < w.heap.size := by
    rcases Nat.lt_or_ge b w.heap.size with h' | h'
    · exact h'
    · simp [World.cell?, Array.getElem?_eq_none h'] at h
  exact (World.cell?_of_block (a := ⟨b, o, none⟩) (k.block b hlt hb)).trans h

set_option maxRecDepth 100000 in
theorem after_in (F : Fence) (d : Nat) (hg : F.fn 81) (hro : F.round = none) (m a : Nat) (w : World) :
    CallsIn F d Try.prog 81 #[.agg #[ptr m], ptr a] w fun e w' => e = .returned (.func (.func 119) #[] #[ptr (w.heap.size + 1), ptr w.heap.size]) ∧ w' = (w.alloc (.cells #[ptr m] 79)).alloc (.cells #[ptr a] 77) := by
  unfold ptr
  refine callsIn_of_wp Try.func81 rfl hg ?_ hro
  simp only [Try.ntmps81, List.size_toArray, List.length_cons, List.length_nil, Nat.reduceAdd, Nat.reduceSub, Array.replicate_succ, Array.replicate_zero, List.push_toArray, List.append_toArray, List.nil_append, List.cons_append]
  gi_wp2
  go_ret
  exact ⟨rfl, rfl⟩

set_option maxRecDepth 100000 in
set_option maxHeartbeats 1000000 in
/-- The same iterator where the body keeps all but some blocks. -/
theorem after1_out (F : Fence) (d : Nat) (hg : F.fn 119) (hro : F.round = none) (hd : 1 ≤ d) (l Ba Bl B : Nat) (S : Nat → Prop) (L : List Nat) (ns : List Note) (J Jx : List (Spot ns.length) → World → Prop)
    (hY : ∀ pre x W, J pre W → pre.length < (upto ns.length ns.length (Nat.le_refl _)).length → YieldAt F (d - 1) Try.prog l #[ptr (at_ L x.1)] W fun e W' =>
      (e = .returned (.bool true) ∧ J (pre ++ [x]) W' ∧ Outs S W W') ∨ (e = .returned (.bool false) ∧ Jx (pre ++ [x]) W'))
    (W : World) (hBa : W.cell? ⟨Ba, 0, none⟩ = some (ptr (at_ L 0))) (hBl : W.cell? ⟨Bl, 0, none⟩ = some (ptr (at_ L 0))) (hBl' : ¬ S Bl) (hR : Ring W B L ns) (hLn : ∀ i, i < L.length → ¬ S (at_ L i)) (hBn : ∀ b, b < B → ¬ S b) (h0 : J [] W) :
    CallsIn F d Try.prog 119 #[.func (.yield l) #[] #[], ptr Ba, ptr Bl] W fun e W' => (∃ v, e = .returned v) ∧
      ((∃ ys, ys = upto ns.length ns.length (Nat.le_refl _) ∧ J ys W') ∨ (∃ pre, pre <+: upto ns.length ns.length (Nat.le_refl _) ∧ Jx pre W')) := by
  have hpv := hR.next 0 (by rw [hR.len]; omega)
  have hlen0 := hR.len
  obtain ⟨s0, hs0⟩ : ∃ s0, nxt_ ns.length 0 = s0 := ⟨_, rfl⟩
  rw [hs0] at hpv
  have hs1 := Lib.hid hs0
  clear hs0
  unfold ptr at hBa hBl hpv ⊢
  refine callsIn_of_wp Try.func119 rfl hg ?_ hro
  simp only [Try.ntmps119, List.size_toArray, List.length_cons, List.length_nil, Nat.reduceAdd, Nat.reduceSub, Array.replicate_succ, Array.replicate_zero, List.push_toArray, List.append_toArray, List.nil_append, List.cons_append]
  gi_wp2
  gi_loopw [4] (fun q wr => ∃ (pre : List (Spot ns.length)) (m : Nat) (hm : m ≤ ns.length), q = .pointer (some ⟨at_ L (if m = 0 then 0 else ns.length + 1 - m), 0, none⟩) ∧ upto ns.length ns.length (Nat.le_refl _) = pre ++ upto ns.length m hm ∧ Ring wr B L ns ∧ wr.cell? ⟨Bl, 0, none⟩ = some (.pointer (some ⟨at_ L 0, 0, none⟩)) ∧ J pre wr)
    (fun q _ => (ns.length + 1 - idx L q) % (ns.length + 1))
  case atStart => exact ⟨[], ns.length, Nat.le_refl _, startAt hs1.out, rfl, hR, hBl, h0⟩
  case round =>
    obtain ⟨pre, m, hm, rfl, hx, hRr, hBr, hJ⟩ := hrel
    have hlen := hRr.len
    cases m with
    | zero =>
      simp only [if_true]
      have hsame := ring_same wr (at_ L 0)
      gi_wp2
      go_end0
      exact ⟨⟨_, rfl⟩, .inl ⟨pre, by rw [hx]; simp [upto], hJ⟩⟩
    | succ m =>
      obtain ⟨i, hi⟩ : ∃ i, ns.length + 1 - (m + 1) = i := ⟨_, rfl⟩
      have hi1 : 1 ≤ i := by omega
      have hi2 : i ≤ ns.length := by omega
      simp only [Nat.add_one_ne_zero, if_false, hi]
      have hneq := ring_neq hRr (show i < L.length by omega) hi1
      have hix := idx_at hRr (show i < L.length by omega)
      have hq := hRr.next i (by omega)
      have hlt := hLn i (by omega)
      obtain ⟨t, ht⟩ : ∃ t, nxt_ ns.length i = t := ⟨_, rfl⟩
      have hix' := idx_at hRr (show t < L.length by rw [← ht]; unfold nxt_; split <;> omega)
      rw [ht] at hq
      unfold ptr at hq hix hix'
      have hsp := upto_cons hm hi hi1 hi2
      obtain ⟨fn, tmps, assign, body, hy, hYR⟩ := hY pre ⟨i, hi1, hi2⟩ wr hJ (by rw [hx, hsp]; simp)
      unfold ptr at hy
      dsimp only at hy
      gi_wp2
      refine hYR.mono ?_
      rintro e W3 (⟨rfl, hJ3, hk3⟩ | ⟨rfl, hJx3⟩)
      · have hq3 := hk3.cell hlt hq
        have hR3 := Lib.hid (hRr.outs hk3 hBn hLn)
        have hB3 := hk3.cell hBl' hBr
        gi_wp2
        go_roundw
        case rel =>
          refine ⟨pre ++ [⟨i, hi1, hi2⟩], m, by omega, ?_, by rw [hx, hsp]; simp, hR3.out, hB3, hJ3⟩
          rw [← ht]; unfold nxt_
          by_cases e : m = 0
          · rw [if_pos (by omega), if_pos e]
          · rw [if_neg (by omega), if_neg e, show i + 1 = ns.length + 1 - m by omega]
        case measure =>
          rw [hix, hix']
          by_cases e : m = 0
          · have h0 : t = 0 := by rw [← ht]; unfold nxt_; rw [if_pos (by omega)]
            rw [h0, Nat.sub_zero, Nat.mod_self, Nat.mod_eq_of_lt (by omega)]; omega
          · have h0 : t = i + 1 := by rw [← ht]; unfold nxt_; rw [if_neg (by omega)]
            rw [h0, Nat.mod_eq_of_lt (by omega), Nat.mod_eq_of_lt (by omega)]; omega
      · gi_wp2
        refine bodyPost_ret (results_none rfl _ _ _) rfl ?_
        exact ⟨⟨_, rfl⟩, .inr ⟨pre ++ [⟨i, hi1, hi2⟩], ⟨upto ns.length m (by omega), by rw [hx, hsp]; simp⟩, hJx3⟩⟩

/-- From the marker on: all, in order; the body keeps all but some blocks. -/
theorem after_out (F : Fence) (d : Nat) (hg : F.fn 119) (hro : F.round = none) (hd : 1 ≤ d) (Ba Bl B : Nat) (S : Nat → Prop) (L : List Nat) (ns : List Note)
    (w : World) (hBa' : Ba < w.heap.size) (hBl0 : Bl < w.heap.size) (hBl' : ¬ S Bl) (hBa : w.cell? ⟨Ba, 0, none⟩ = some (ptr (at_ L 0))) (hBl : w.cell? ⟨Bl, 0, none⟩ = some (ptr (at_ L 0))) (hR : Ring w B L ns) (hLn : ∀ i, i < L.length → ¬ S (at_ L i)) (hBn : ∀ b, b < B → ¬ S b) :
    SeqStopsK F d Try.prog 119 #[ptr Ba, ptr Bl] (fun x : Spot ns.length => #[ptr (at_ L x.1)]) (Outs S) (fun ys => ys = upto ns.length ns.length (Nat.le_refl _)) (fun pre => pre <+: upto ns.length ns.length (Nat.le_refl _)) (upto ns.length ns.length (Nat.le_refl _)).length w := fun l J Jx W hW _ _ hY h0 =>
  after1_out F d hg hro hd l Ba Bl B S L ns J Jx hY W ((hW.cell (p := ⟨Ba, 0, none⟩) hBa').trans hBa) ((hW.cell (p := ⟨Bl, 0, none⟩) hBl0).trans hBl) hBl' (hR.onward hW) hLn hBn h0
theorem outsK_b {S : Nat → Prop} {w : World} (hS : ∀ b, w.heap.size ≤ b → S b) (W : World) (l : Nat) (o o' : Obj) (hl : w.heap.size ≤ l) (_ : W.heap[l]? = some o) (_ : o.isCells = false) (_ : o.isWalk = false) : Outs S W (W.putObj l o') :=
  Outs.of_grown (grownBy_putObj' W l o') (fun k e => by cases e; exact hS l hl)

/-- The notes of all places, in order. -/
theorem upto_notes {ns : List Note} : (upto ns.length ns.length (Nat.le_refl _)).map (noteAt ns) = ns := by
  have h : ∀ m (hm : m ≤ ns.length), (upto ns.length m hm).map (noteAt ns) = ns.drop (ns.length - m) := by
    intro m
    induction m with
    | zero => intro hm; simp [upto]
    | succ m ih =>
      intro hm
      have hi : ns.length - (m + 1) < ns.length := by omega
      simp only [upto, List.map_cons, ih]
      rw [List.drop_eq_getElem_cons hi]
      congr 1
      congr 1; omega
  have := h ns.length (Nat.le_refl _)
  simpa using this
/-- No name, no value is too long to be copied. -/
def SmallN (n : Note) : Prop := n.locks.length ≤ 1048576 ∧ n.writes.length ≤ 1048576 ∧ ∀ y ∈ n.writes, y.val.length ≤ 1048576
theorem upto_len {n : Nat} : ∀ (m : Nat) (hm : m ≤ n), (upto n m hm).length = m
  | 0, _ => rfl
  | m + 1, hm => by simp [upto, upto_len m]
theorem tight_note : noteSh.Tight := (tight_int.pair (tight_int.pair (((tight_str _).sl _ _).pair ((((tight_str _).pair (tight_bool.pair (tight_int.sl _ _))).conv _ _ _).sl _ _)))).conv _ _ _
theorem infoNoteA : (Try.prog.info? 36).map (fun i => (i.zero, i.size, i.bytes)) = some (some (.agg #[.int .i64 0, .int .i64 0, .slice none 0 0, .slice none 0 0]), noteSh.wd, 64) := by kernel_rfl

/-- What holds while all are copied: the result's block, the row so far, the marker, the ring. -/
structure LdW (w : World) (n0 B : Nat) (L : List Nat) (ns xs : List Note) (W : World) : Prop where
  res : Held W (w.heap.size + 1) [.slice none 0 0, .int .i64 0]
  row : ∃ v S, Held W (w.heap.size + 1 + 1) [v] ∧ noteSh.Own 36 W S v xs ∧ ∀ b, S b → n0 ≤ b ∧ b < W.heap.size
  mrk : Held W (w.heap.size + 1 + 1 + 1) [.pointer (some ⟨at_ L 0, 0, none⟩)]
  ring : Ring W B L ns
  bel : Below w.heap.size w W
  size : n0 ≤ W.heap.size
theorem LdW.turned {w : World} {n0 B : Nat} {L : List Nat} {ns xs : List Note} {W W' : World} {row : Option Nat} (h : LdW w n0 B L ns xs W) (hn : w.heap.size + 1 + 1 + 1 < n0) (hR : ∀ i, i < L.length → at_ L i < w.heap.size) (hB : B ≤ w.heap.size) (hg : W.grownBy W' row) (hr : ∀ r, row = some r → n0 ≤ r ∧ ∃ o : Obj, W.heap[r]? = some o ∧ o.isCells = false) : LdW w n0 B L ns xs W' := by
  have hb : Below n0 W W' := (Below.refl n0 W).grown hg h.size (fun k e => (hr k e).1)
  obtain ⟨v, S, h1, h2, h3⟩ := h.row
  exact ⟨h.res.below hb (by omega), ⟨v, S, h1.below hb (by omega), h2.turned tight_note hg (fun r e => (hr r e).2), fun b hb' => ⟨(h3 b hb').1, Nat.lt_of_lt_of_le (h3 b hb').2 hg.size⟩⟩, h.mrk.below hb (by omega), h.ring.below hb (by omega) (fun i hi => by have := hR i hi; omega), h.bel.trans (hb.mono (by omega)), Nat.le_trans h.size hb.size⟩
theorem ownFrom_ld {w : World} {n0 B : Nat} {L : List Nat} {ns : List Note} (hn : w.heap.size + 1 + 1 + 1 < n0) (hR : ∀ i, i < L.length → at_ L i < w.heap.size) (hB : B ≤ w.heap.size) : OwnFrom n0 (fun (pre : List (Spot ns.length)) W => LdW w n0 B L ns (pre.map (noteAt ns)) W) :=
  fun _ _ _ _ hs hg hr => hs.turned hn hR hB hg hr
theorem keepsOthers_below {W W' : World} (h : Below W.heap.size W W') : KeepsOthers W W' :=
  ⟨h.size, fun k _ hk _ => (h.block k (Array.getElem?_eq_some_iff.1 hk).1).trans hk⟩
theorem keepsOthers_grown {W W' : World} {row : Option Nat} (h : W.grownBy W' row) (hr : ∀ r, row = some r → CellsAt W r) : KeepsOthers W W' :=
  ⟨h.size, fun k o hk hc => (h.block k (Array.getElem?_eq_some_iff.1 hk).1 (fun e => by
    obtain ⟨ca, ta, fr, hcell⟩ := hr k e.symm
    rw [hcell] at hk
    cases hk
    simp [Obj.isCells] at hc)).trans hk⟩
theorem Sh.Own.cells {α : Type} {A : Sh α} {e : TypeId} {w : World} {S : Nat → Prop} {v : Value} {xs : List α} (h : A.Own e w S v xs) : ∀ r, v.ownBlock = some r → CellsAt w r := by
  obtain ⟨C, F, h1, h2, h3, h4⟩ := h
  intro g hg
  rcases h1.2 with ⟨rfl, -⟩ | ⟨g', cap, cur, rfl, _, hgg, _⟩
  · cases hg
  · obtain rfl := Option.some.inj hg
    exact ⟨_, _, _, hgg⟩

/-- A place's notes of its own. -/
def DiskMade (x : Disk) (w : World) (e : Ending) (w' : World) : Prop :=
  ∃ cs, e = .returned (.agg cs.toArray) ∧ diskSh.own w' (fun b => w.heap.size ≤ b ∧ b < w'.heap.size) cs x ∧ Below w.heap.size w w'

set_option maxRecDepth 100000 in
set_option maxHeartbeats 4000000 in
theorem disk_any (w : World) (B : Nat) (L : List Nat) (ns : List Note) (safe : Int) (hR : Ring w B L ns) (hl : ns.length ≤ 1000000) (hsm : ∀ n ∈ ns, SmallN n) :
    Calls Try.prog 70 #[.agg #[ptr (at_ L 0)], .int .i64 safe] w (DiskMade ⟨ns, safe⟩ w) := by
  refine (callsIn_wide (n := 4)).1 ?_
  obtain ⟨F, hF⟩ : ∃ F, F = Fence.wide := ⟨_, rfl⟩
  have hro : F.round = none := by rw [hF]; rfl
  have hb : F.fn 81 := by rw [hF]; trivial
  have hb1 : F.fn 119 := by rw [hF]; trivial
  have hc : F.fn 111 := by rw [hF]; trivial
  have hg : F.fn 70 := by rw [hF]; trivial
  rw [← hF]
  have HFw := Lib.hid hF
  clear hF
  have HBi := Lib.hid (after_in F 3 hb hro (at_ L 0) (at_ L 0))
  have hB5 : Below w.heap.size w (((((w.alloc (.cells #[.pointer (some ⟨at_ L 0, 0, none⟩)] 79)).alloc (.cells #[.slice none 0 0, .int .i64 0] 25)).alloc (.cells #[.slice none 0 0] 23)).alloc (.cells #[.pointer (some ⟨at_ L 0, 0, none⟩)] 79)).alloc (.cells #[.pointer (some ⟨at_ L 0, 0, none⟩)] 77)) :=
    ((belowThree _ _ _ _).alloc (by simp; omega) _).alloc (by simp; omega) _
  have HK : Hid (LdW w (w.heap.size + 1 + 1 + 1 + 1 + 1) B L ns [] (((((w.alloc (.cells #[.pointer (some ⟨at_ L 0, 0, none⟩)] 79)).alloc (.cells #[.slice none 0 0, .int .i64 0] 25)).alloc (.cells #[.slice none 0 0] 23)).alloc (.cells #[.pointer (some ⟨at_ L 0, 0, none⟩)] 79)).alloc (.cells #[.pointer (some ⟨at_ L 0, 0, none⟩)] 77)) ∧ Held (((((w.alloc (.cells #[.pointer (some ⟨at_ L 0, 0, none⟩)] 79)).alloc (.cells #[.slice none 0 0, .int .i64 0] 25)).alloc (.cells #[.slice none 0 0] 23)).alloc (.cells #[.pointer (some ⟨at_ L 0, 0, none⟩)] 79)).alloc (.cells #[.pointer (some ⟨at_ L 0, 0, none⟩)] 77)) (w.heap.size + 1 + 1 + 1 + 1) [.pointer (some ⟨at_ L 0, 0, none⟩)]) := Lib.hid
    ⟨⟨((((Held.new (w.alloc (.cells #[.pointer (some ⟨at_ L 0, 0, none⟩)] 79)) #[.slice none 0 0, .int .i64 0] 25).after _).after _).after _).lit (by simp), ⟨_, fun _ => False, (((Held.new ((w.alloc (.cells #[.pointer (some ⟨at_ L 0, 0, none⟩)] 79)).alloc (.cells #[.slice none 0 0, .int .i64 0] 25)) #[.slice none 0 0] 23).after _).after _).lit (by simp), Sh.Own.nil _ _, fun _ h => h.elim⟩, ((Held.new (((w.alloc (.cells #[.pointer (some ⟨at_ L 0, 0, none⟩)] 79)).alloc (.cells #[.slice none 0 0, .int .i64 0] 25)).alloc (.cells #[.slice none 0 0] 23)) #[.pointer (some ⟨at_ L 0, 0, none⟩)] 79).after _).lit (by simp), hR.onward hB5, hB5, by simp⟩,
      (Held.new ((((w.alloc (.cells #[.pointer (some ⟨at_ L 0, 0, none⟩)] 79)).alloc (.cells #[.slice none 0 0, .int .i64 0] 25)).alloc (.cells #[.slice none 0 0] 23)).alloc (.cells #[.pointer (some ⟨at_ L 0, 0, none⟩)] 79)) #[.pointer (some ⟨at_ L 0, 0, none⟩)] 77).lit (by simp)⟩
  have hz5 : (((((w.alloc (.cells #[.pointer (some ⟨at_ L 0, 0, none⟩)] 79)).alloc (.cells #[.slice none 0 0, .int .i64 0] 25)).alloc (.cells #[.slice none 0 0] 23)).alloc (.cells #[.pointer (some ⟨at_ L 0, 0, none⟩)] 79)).alloc (.cells #[.pointer (some ⟨at_ L 0, 0, none⟩)] 77)).heap.size = w.heap.size + 1 + 1 + 1 + 1 + 1 := by simp
  have HZ := Lib.hid hz5
  have hlt := hR.lt
  have hBw := hR.size
  have hlen := hR.len
  have HSm := Lib.hid hsm
  clear hB5 hz5 hR hsm
  unfold ptr at HBi ⊢
  refine callsIn_of_wp_marks Try.func70 rfl hg ?_ hro
  simp only [Try.ntmps70, List.size_toArray, List.length_cons, List.length_nil, Nat.reduceAdd, Nat.reduceSub, Array.replicate_succ, Array.replicate_zero, List.push_toArray, List.append_toArray, List.nil_append, List.cons_append]
  gi_wp2_with (gi_at_call 81; refine (HBi.out _).mono ?_; rintro e w' ⟨rfl, rfl⟩)
  generalize (((((w.alloc (.cells #[.pointer (some ⟨at_ L 0, 0, none⟩)] 79)).alloc (.cells #[.slice none 0 0, .int .i64 0] 25)).alloc (.cells #[.slice none 0 0] 23)).alloc (.cells #[.pointer (some ⟨at_ L 0, 0, none⟩)] 79)).alloc (.cells #[.pointer (some ⟨at_ L 0, 0, none⟩)] 77)) = W0 at *
  have hz0 : w.heap.size + 1 + 1 + 1 + 1 + 1 = W0.heap.size := HZ.out.symm
  refine wpIn_rangeFunc_ownF hro (by omega) (gf := 119) (lb := #[.pointer (some ⟨w.heap.size + 1 + 1 + 1 + 1, 0, none⟩), .pointer (some ⟨w.heap.size + 1 + 1 + 1, 0, none⟩)]) rfl hb1 (enters_of Try.func119 (by kernel_rfl) rfl)
    (after_out F 3 hb1 hro (by omega) (w.heap.size + 1 + 1 + 1 + 1) (w.heap.size + 1 + 1 + 1) B (fun b => W0.heap.size ≤ b ∨ b = w.heap.size + 1 + 1) L ns W0 (by omega) (by omega) (by omega) (HK.out.2.of 0 _ rfl) (HK.out.1.mrk.of 0 _ rfl) HK.out.1.ring (fun i hi => by have := hlt i hi; omega) (fun b hb => by omega)) Outs.trans (outsK_b (fun b hb => .inl hb)) (Below.refl _ _) (fun _ => rfl)
    (fun pre W => LdW w W0.heap.size B L ns (pre.map (noteAt ns)) W)
    (fun _ _ _ => False)
    (ownFrom_ld (by omega) hlt hBw)
    (fun c _ _ _ _ h _ _ => h)
    (hz0 ▸ HK.out.1)
    (fun x => { tmps := #[.agg #[.pointer (some ⟨at_ L 0, 0, none⟩)], .int .i64 safe, .pointer (some ⟨w.heap.size, 0, none⟩), undef, .pointer (some ⟨w.heap.size + 1, 0, none⟩), .pointer (some ⟨w.heap.size + 1 + 1, 0, none⟩), .pointer (some ⟨at_ L x.1, 0, none⟩), .agg #[.pointer (some ⟨at_ L 0, 0, none⟩)], .pointer (some ⟨w.heap.size, 0, none⟩), .pointer (some ⟨at_ L 0, 0, none⟩),
      .func (.func 119) #[] #[.pointer (some ⟨w.heap.size + 1 + 1 + 1 + 1, 0, none⟩), .pointer (some ⟨w.heap.size + 1 + 1 + 1, 0, none⟩)], .pointer (some ⟨at_ L x.1, 0, none⟩), undef, undef, undef, undef, undef, undef, undef, undef, undef, undef, undef], defers := [] }) ?assign ?body ?done ?stop
  case assign =>
    intro l x W K hK
    unfold ptr
    gi_wp2
    exact hK
  case body =>
    rintro l pre x W hK hpn
    rw [upto_len] at hpn
    obtain ⟨y, A1, c1, A2, c2, hy, q0, q1, q2, q3, hrel⟩ := hK.ring.at_ (k := x.1 - 1) (by have := x.2; omega)
    have hxe : x.1 - 1 + 1 = x.1 := by have := x.2; omega
    rw [hxe] at q0 q1 q2 q3
    have hyn : noteAt ns x = y := noteAt_get hy hxe.symm
    have hyl : x.1 < L.length := by have := x.2; omega
    have hxl := hlt x.1 hyl
    obtain ⟨v, S, hrow, hown, hS⟩ := hK.row
    obtain ⟨Av, cv, hvf, -, -⟩ := hown.row.form
    rw [List.length_map] at hvf
    subst hvf
    have hpl : (pre.map (noteAt ns)).length ≤ 1048576 := by
      rw [List.length_map]; omega
    have hys := HSm.out y (List.mem_of_getElem? hy)
    have HX : Hid (noteSh.rel W.drew W.drew.heap.size [.int .i64 y.kind, .int .i64 y.tx, .slice A1 y.locks.length c1, .slice A2 y.writes.length c2] y) := Lib.hid (noteSh.rmore (B' := W.heap.size) (show noteSh.rel W.drew B _ y from hrel) hK.ring.size)
    have k0 : W.drew.cell? ⟨w.heap.size + 1 + 1, 0, none⟩ = some (.slice Av pre.length cv) ∧ W.drew.cell? ⟨at_ L x.1, 0, none⟩ = some (.int .i64 y.kind) ∧ W.drew.cell? ⟨at_ L x.1, 1, none⟩ = some (.int .i64 y.tx) ∧ W.drew.cell? ⟨at_ L x.1, 2, none⟩ = some (.slice A1 y.locks.length c1) ∧ W.drew.cell? ⟨at_ L x.1, 3, none⟩ = some (.slice A2 y.writes.length c2) := ⟨hrow.of 0 _ rfl, q0, q1, q2, q3⟩
    have HLk := Lib.hid fun (Y : World) (hb : Below w.heap.size W Y) => And.intro ((hb.cell (p := ⟨at_ L x.1, 0, none⟩) hxl).trans q0) (And.intro ((hb.cell (p := ⟨at_ L x.1, 1, none⟩) hxl).trans q1) (And.intro ((hb.cell (p := ⟨at_ L x.1, 2, none⟩) hxl).trans q2) ((hb.cell (p := ⟨at_ L x.1, 3, none⟩) hxl).trans q3)))
    have HK := Lib.hid hK
    have HY := Lib.hid hyn
    have HRow := Lib.hid hrow
    have HOwn := Lib.hid hown
    have HS := Lib.hid hS
    have HSmy := Lib.hid hys
    have hwz : w.heap.size ≤ W.heap.size := hK.bel.size
    have hnz := hK.size
    clear hK hyn hy hxe hrel q0 q1 q2 q3 hrow hown hS hys
    gi_wp2
    refine region_l_in HFw.out (S := (fun w' => w'.cell? ⟨w.heap.size + 1 + 1, 0, none⟩ = some (.slice Av pre.length cv) ∧ w'.cell? ⟨at_ L x.1, 0, none⟩ = some (.int .i64 y.kind) ∧ w'.cell? ⟨at_ L x.1, 1, none⟩ = some (.int .i64 y.tx) ∧ w'.cell? ⟨at_ L x.1, 2, none⟩ = some (.slice A1 y.locks.length c1) ∧ w'.cell? ⟨at_ L x.1, 3, none⟩ = some (.slice A2 y.writes.length c2))) 8 (by kernel_rfl) (by kernel_rfl) (by rintro ⟨_, _, h⟩; exact h) ?hSr (fun hHeldr => ?str)
    case hSr => (first | (dsimp only; (first | with_reducible exact k3 | with_reducible exact k2 | with_reducible exact k1 | exact k0)) | (first | with_reducible exact k3 | with_reducible exact k2 | with_reducible exact k1 | exact k0))
    refine take_l 0 12 (v := ?vr_1) rfl rfl (by kernel_rfl) (by kernel_rfl) (by kernel_rfl) (by kernel_rfl) (fun _ _ _ h => h) (by rfl) ?yr_1 (by assumption) ?rr_1
    case yr_1 => (intro w hSw; (try dsimp only at hSw); go_simp; (try with_reducible rfl))
    simp only [Act.put, List.setIfInBounds_toArray, List.set_cons_zero, List.set_cons_succ]
    refine take_l 1 13 (v := ?vr_2) rfl rfl (by kernel_rfl) (by kernel_rfl) (by kernel_rfl) (by kernel_rfl) (fun _ _ _ h => h) (by rfl) ?yr_2 (by assumption) ?rr_2
    case yr_2 => (intro w hSw; (try dsimp only at hSw); go_simp; (try with_reducible rfl))
    simp only [Act.put, List.setIfInBounds_toArray, List.set_cons_zero, List.set_cons_succ]
    refine take_l 2 14 (v := ?vr_3) rfl rfl (by kernel_rfl) (by kernel_rfl) (by kernel_rfl) (by kernel_rfl) (fun _ _ _ h => h) (by rfl) ?yr_3 (by assumption) ?rr_3
    case yr_3 => (intro w hSw; (try dsimp only at hSw); go_simp; (try with_reducible rfl))
    simp only [Act.put, List.setIfInBounds_toArray, List.set_cons_zero, List.set_cons_succ]
    refine take_l 3 15 (v := ?vr_4) rfl rfl (by kernel_rfl) (by kernel_rfl) (by kernel_rfl) (by kernel_rfl) (fun _ _ _ h => h) (by rfl) ?yr_4 (by assumption) ?rr_4
    case yr_4 => (intro w hSw; (try dsimp only at hSw); go_simp; (try with_reducible rfl))
    simp only [Act.put, List.setIfInBounds_toArray, List.set_cons_zero, List.set_cons_succ]
    refine take_l 4 16 (v := ?vr_5) rfl rfl (by kernel_rfl) (by kernel_rfl) (by kernel_rfl) (by kernel_rfl) (fun _ _ _ h => h) (by rfl) ?yr_5 (by assumption) ?rr_5
    case yr_5 => (intro w hSw; (try dsimp only at hSw); go_simp; (try with_reducible rfl))
    simp only [Act.put, List.setIfInBounds_toArray, List.set_cons_zero, List.set_cons_succ]
    refine one_l 5 rfl (by kernel_rfl) (fun Kr_6 hKr_6 => ?cr_6)
    go_simp
    refine (implCopyNote_any W.drew y _ HX.out HSmy.out.1 HSmy.out.2.1 HSmy.out.2.2).mono ?_; rintro e w1 ⟨cs1, rfl, ho1, hb1⟩; obtain ⟨u1, v1, S1, S2, rfl, hu1, hv1, -, -, -⟩ := note_own.1 ho1; obtain ⟨E1, d1, hf1, -, -⟩ := hu1.row.form; obtain ⟨E2, d2, hf2, -, -⟩ := hv1.row.form; subst hf1 hf2; have HN1 := Lib.hid ho1; have HB1 := Lib.hid (show Below W.heap.size W w1 from (Below.refl _ W).drew.trans hb1); have HKo1 := Lib.hid ((KeepsOthers.drew W).trans (keepsOthers_below hb1)); have HRow1 := Lib.hid (HRow.out.below HB1.out HRow.out.1); have HOwn1 := Lib.hid (HOwn.out.below HB1.out); have k1 := And.intro (HRow1.out.of 0 _ rfl) (HLk.out _ (HB1.out.mono hwz)); have HRow2 := Lib.hid (HRow1.out.after (.cells #[.int .i64 y.kind, .int .i64 y.tx, .slice E1 y.locks.length d1, .slice E2 y.writes.length d2] 36)); have HOwn2 := Lib.hid (HOwn1.out.below (belowOne w1 (.cells #[.int .i64 y.kind, .int .i64 y.tx, .slice E1 y.locks.length d1, .slice E2 y.writes.length d2] 36))); have HB2 := Lib.hid (HB1.out.alloc HB1.out.size (.cells #[.int .i64 y.kind, .int .i64 y.tx, .slice E1 y.locks.length d1, .slice E2 y.writes.length d2] 36)); have k2 := And.intro (HRow2.out.of 0 _ rfl) (HLk.out _ (HB2.out.mono hwz)); have HN2 := Lib.hid (noteSh.okeep HN1.out (w' := w1.alloc (.cells #[.int .i64 y.kind, .int .i64 y.tx, .slice E1 y.locks.length d1, .slice E2 y.writes.length d2] 36)) (fun b _ hlt => (belowOne w1 _).block b hlt)); have hz1 := HB1.out.size; clear hb1 hu1 hv1 ho1
    go_wp2_with fail
    refine hKr_6.out _ _ ?kr_6 (fun hHoldr_6 => ?dr_6)
    case kr_6 => (intro _; (first | (dsimp only; (first | with_reducible exact k3 | with_reducible exact k2 | with_reducible exact k1 | exact k0)) | (first | with_reducible exact k3 | with_reducible exact k2 | with_reducible exact k1 | exact k0)))
    clear hKr_6 Kr_6
    have hHeldr_6 := hHoldr_6 (by decide)
    clear hHoldr_6
    refine one_l 6 rfl (by kernel_rfl) (fun Kr_7 hKr_7 => ?cr_7)
    go_simp
    skip
    go_wp2_with fail
    refine hKr_7.out _ _ ?kr_7 (fun hHoldr_7 => ?dr_7)
    case kr_7 => (intro _; (first | (dsimp only; (first | with_reducible exact k3 | with_reducible exact k2 | with_reducible exact k1 | exact k0)) | (first | with_reducible exact k3 | with_reducible exact k2 | with_reducible exact k1 | exact k0)))
    clear hKr_7 Kr_7
    have hHeldr_7 := hHoldr_7 (by decide)
    clear hHoldr_7
    refine one_l 7 rfl (by kernel_rfl) (fun Kr_8 hKr_8 => ?cr_8)
    rw [if_pos (by rfl)]
    refine app_one noteSh 23 36 _ 64 Try.underlying23 infoNoteA rfl (by decide) (by omega) (.tmp 12) (.tmp 18) rfl S _ _ (pre.map (noteAt ns)) rfl HOwn2.out w1.heap.size rfl _ y HN2.out (Held.new w1 _ _) (fun b hb hb2 => by have := (HS.out b hb).2; have := hb2.1; have : W.drew.heap.size = W.heap.size := rfl; omega) hpl ?_; intro v3 w3 ho3 hg3 _; obtain ⟨A3, c3, hf3, -, -⟩ := ho3.row.form; rw [List.length_append, List.length_map, List.length_singleton] at hf3; subst hf3; have HRow3 := Lib.hid (HRow2.out.outs (Outs.of_grown (S := S) hg3 (HOwn2.out.blk)) (fun h => by have := (HS.out _ h).1; omega)); have HB3 := Lib.hid ((HB2.out.mono hwz).grown hg3 (by rw [allocSize]; omega) (fun q hq => by have := (HS.out _ (HOwn2.out.blk q hq)).1; omega)); have f3 := HRow3.out.2.1 0; have k3 := And.intro (HRow3.out.of 0 _ rfl) (HLk.out _ HB3.out); have HO3 := Lib.hid ho3.cap; have HG3 := Lib.hid hg3; clear ho3 hg3
    refine hKr_8.out _ _ ?kr_8 (fun hHoldr_8 => ?dr_8)
    case kr_8 => (intro _; (first | (dsimp only; (first | with_reducible exact k3 | with_reducible exact k2 | with_reducible exact k1 | exact k0)) | (first | with_reducible exact k3 | with_reducible exact k2 | with_reducible exact k1 | exact k0)))
    clear hKr_8 Kr_8
    have hHeldr_8 := hHoldr_8 (by decide)
    clear hHoldr_8
    refine one_l 8 rfl (by kernel_rfl) (fun Kr_9 hKr_9 => ?cr_9)
    go_simp
    skip
    go_wp2_with fail
    refine hKr_9.out _ _ ?kr_9 (fun hHoldr_9 => ?dr_9)
    case kr_9 => exact fun h => absurd rfl h
    clear hKr_9 Kr_9
    clear hHoldr_9
    refine done_l (by kernel_rfl) ?er _
    have hz3 := HG3.out.size
    rw [allocSize] at hz3
    have HSet := Lib.hid (show ∀ b, (S b ∨ (W.drew.heap.size ≤ b ∧ b < w1.heap.size) ∨ b = (w1.alloc (.cells #[.int .i64 y.kind, .int .i64 y.tx, .slice E1 y.locks.length d1, .slice E2 y.writes.length d2] 36)).heap.size) ∧ b < w3.heap.size → W0.heap.size ≤ b ∧ b < w3.heap.size from fun b hb => by
      have hdw : W.drew.heap.size = W.heap.size := rfl
      rcases hb.1 with h | h | h
      · have := HS.out b h; omega
      · omega
      · rw [allocSize] at h; omega)
    have htk : (pre.map (noteAt ns)) ++ [y] = (pre ++ [x]).map (noteAt ns) := by rw [List.map_append, List.map_cons, List.map_nil, HY.out]
    have HO3' := HO3.out
    rw [htk] at HO3'
    have HO4 := Lib.hid HO3'
    clear HO3' htk
    gi_wp2
    have hOuts : Outs (fun b => W0.heap.size ≤ b ∨ b = w.heap.size + 1 + 1) W (w3.setCell ⟨w.heap.size + 1 + 1, 0, none⟩ (.slice A3 (pre.length + 1) c3)) :=
      ((Outs.of_below HB2.out).trans (Outs.of_grown HG3.out (fun q hq => .inl (HS.out _ (HOwn2.out.blk q hq)).1))).trans (Outs.of_set _ ⟨w.heap.size + 1 + 1, 0, none⟩ _ (.inr rfl))
    have hBel : Below w.heap.size W (w3.setCell ⟨w.heap.size + 1 + 1, 0, none⟩ (.slice A3 (pre.length + 1) c3)) := HB3.out.setCell (by show w.heap.size ≤ w.heap.size + 1 + 1; omega) _
    refine ⟨((HKo1.out.trans (KeepsOthers.alloc _ _)).trans (keepsOthers_grown HG3.out HOwn2.out.cells)).trans (KeepsOthers.setCell _ _ _), hOuts, HK.out.res.outs hOuts (by omega), ⟨_, _, HRow3.out.set_ (i := 0) _, ?_, fun b hb => ⟨(HSet.out b hb).1, ?_⟩⟩, HK.out.mrk.outs hOuts (by omega), HK.out.ring.below (n := w.heap.size) hBel hBw hlt, HK.out.bel.trans hBel, by simp [World.setCell]; omega⟩
    · exact HO4.out.keep fun b hb _ => Below.heap_setCell _ _ _ _ (by have := (HSet.out b hb).1; show b ≠ w.heap.size + 1 + 1; omega)
    · have := (HSet.out b hb).2
      simp [World.setCell]; omega
  case done =>
    rintro D ys W hD rfl hK hDf
    rw [upto_notes] at hK
    obtain ⟨v, S, hrow, hown, hS⟩ := hK.row
    obtain ⟨Av, cv, hvf, -, -⟩ := hown.row.form
    subst hvf
    have r0 := hK.res.of 0 _ rfl
    have r1 := hK.res.of 1 _ rfl
    have rf := hK.res.2.1
    have b0 := hrow.of 0 _ rfl
    have HK := Lib.hid hK
    have HD := Lib.hid hDf
    have HOwn := Lib.hid hown
    have HS := Lib.hid hS
    clear hK hDf hown hS hrow
    gi_wp2
    have hH := (HK.out.res.set_ (i := 0) (.slice Av ns.length cv)).set_ (i := 1) (.int .i64 safe)
    have hD' := ((KeepsOthers.setCell W ⟨w.heap.size + 1, 0, none⟩ (.slice Av ns.length cv)).trans (KeepsOthers.setCell _ ⟨w.heap.size + 1, 1, none⟩ (.int .i64 safe))).same D _ HD.out rfl
    refine ⟨by simp, .inl ⟨_, _, rfl, run_takeDeferred hD', ?_⟩⟩
    have hc0 := cell_kept (hH.of 0 _ rfl) (grownBy_putObj' _ D (.deferred none)) (fun r e => by cases e; exact ⟨_, hD', rfl⟩)
    have hc1 := cell_kept (hH.of 1 _ rfl) (grownBy_putObj' _ D (.deferred none)) (fun r e => by cases e; exact ⟨_, hD', rfl⟩)
    have hbel : Below w.heap.size w ((W.setCell ⟨w.heap.size + 1, 0, none⟩ (.slice Av ns.length cv)).setCell ⟨w.heap.size + 1, 1, none⟩ (.int .i64 safe)) := (HK.out.bel.setCell (p := ⟨w.heap.size + 1, 0, none⟩) (by show w.heap.size ≤ w.heap.size + 1; omega) _).setCell (p := ⟨w.heap.size + 1, 1, none⟩) (by show w.heap.size ≤ w.heap.size + 1; omega) _
    refine ⟨.agg #[.slice Av ns.length cv, .int .i64 safe], ?_, ⟨_, rfl, disk_own.2 ⟨_, rfl, ?_⟩, hbel.trans (belowK_b (w := w) (Nat.le_refl _) _ D _ _ (by omega) hD' rfl rfl)⟩⟩
    · simp [results, Try.f70, go_sem, hc0, hc1]
    · have h1 := (HOwn.out.keep (w' := (W.setCell ⟨w.heap.size + 1, 0, none⟩ (.slice Av ns.length cv)).setCell ⟨w.heap.size + 1, 1, none⟩ (.int .i64 safe)) fun b hb _ => by
        have hne : b ≠ w.heap.size + 1 := by have := (HS.out b hb).1; omega
        rw [Below.heap_setCell _ _ _ _ hne, Below.heap_setCell _ _ _ _ hne])
      have h2 := h1.turned tight_note (grownBy_putObj' _ D (.deferred none)) (fun r e => by cases e; exact ⟨_, hD', rfl⟩)
      refine h2.mono fun b hb => ⟨by have := (HS.out b hb).1; omega, ?_⟩
      have := (HS.out b hb).2
      refine Nat.lt_of_lt_of_le this (Nat.le_trans ?_ (grownBy_putObj' _ D (.deferred none)).size)
      simp [World.setCell]
  case stop =>
    rintro D c pre W _ _ hF _
    exact hF.elim

end Go.Proofs.Ytkamlibfcakblaa
