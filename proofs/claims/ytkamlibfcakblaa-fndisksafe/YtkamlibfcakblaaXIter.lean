/- The iterators over a ring of notes: what they hand to the body of a loop. -/
import Derived.RangeFuncNested
import Derived.RangeFuncBound
import Derived.RangeFuncCalls
import Derived.RangeFuncLeaves
import Derived.Shelf.Abstract
import Derived.Shelf.RegionOpen
import Derived.OwnWalkIn
import Derived.TacticsInMore
import Derived.LoopNIn
import Derived.LoopIn
import Derived.LaidEqlPtr
import Derived.Lib.Builder
import Derived.Test.YtkamlibfcakblaaXListOf
namespace Go.Proofs.Ytkamlibfcakblaa
open Go.RowKit Go.Shelf

attribute [local go_sem] Oper.semAt_some

/-- The places of the notes of a ring. -/
abbrev Spot (n : Nat) : Type := { i : Nat // 1 ≤ i ∧ i ≤ n }
/-- From s down to 1. -/
def down (n : Nat) : (s : Nat) → s ≤ n → List (Spot n)
  | 0, _ => []
  | s + 1, h => ⟨s + 1, by omega, h⟩ :: down n s (by omega)
/-- The last m. -/
def upto (n : Nat) : (m : Nat) → m ≤ n → List (Spot n)
  | 0, _ => []
  | m + 1, h => ⟨n - m, by omega, by omega⟩ :: upto n m (by omega)

theorem upto_cons {n m i : Nat} (hm : m + 1 ≤ n) (hi : n + 1 - (m + 1) = i) (h1 : 1 ≤ i) (h2 : i ≤ n) : upto n (m + 1) hm = ⟨i, h1, h2⟩ :: upto n m (by omega) := by
  have e : upto n (m + 1) hm = ⟨n - m, by omega, by omega⟩ :: upto n m (by omega) := rfl
  rw [e]
  congr 1
  exact Subtype.ext (by show n - m = i; omega)
/-- Which of a ring a pointer is. -/
def idx (L : List Nat) : Value → Nat
  | .pointer (some a) => L.findIdx (· == a.block)
  | _ => 0
theorem idx_at {w : World} {B : Nat} {L : List Nat} {ns : List Note} (h : Ring w B L ns) {i : Nat} (hi : i < L.length) : idx L (ptr (at_ L i)) = i := by
  have hat : ∀ j (hj : j < L.length), at_ L j = L[j] := fun j hj => by simp [at_, List.getD_eq_getElem?_getD, hj]
  show L.findIdx (· == at_ L i) = i
  rw [List.findIdx_eq hi]
  refine ⟨by rw [hat i hi]; simp, fun j hj => ?_⟩
  have := h.up j i hj hi
  rw [hat j (by omega)] at this
  simp only [beq_eq_false_iff_ne]
  omega
theorem at_ne {w : World} {B : Nat} {L : List Nat} {ns : List Note} (h : Ring w B L ns) {i : Nat} (hi : i < L.length) (h0 : 1 ≤ i) : at_ L i ≠ at_ L 0 := by
  have := h.up 0 i h0 hi; omega

theorem neq_other {P : Program} (w : World) {tp te : TypeId} {j : TypeInfo} {a b : Addr} {ca cb : Array Value} {ta tb : TypeId} (hp : P.underlying tp = some (.pointer te)) (hte : P.info? te = some j) (hsz : j.size ≠ 0)
    (hne : a ≠ b) (ha : w.heap[a.block]? = some (.cells ca ta (0, 0))) (hb : w.heap[b.block]? = some (.cells cb tb (0, 0))) :
    (binOp .neq tp (.pointer (some a)) (.pointer (some b))).run P w = .ok (.bool true) w := by
  have h : ∀ d : Nat, (Op.equalIn (d + 1) tp (.pointer (some a)) (.pointer (some b))).run P w = .ok false w := fun d => by
    simp [Op.equalIn, run_underlying hp, sizeOf, typeInfo, hte, hsz, run_sameAddr_other w hne ha hb]
  simp only [binOp]
  simp [Op.equal, Op.maxDepth, h 9999]
theorem linkInfo : ∃ j, Try.prog.info? 101 = some j ∧ j.size ≠ 0 := by
  have h : (Try.prog.info? 101).map (·.size) = some 6 := by kernel_rfl
  obtain ⟨j, hj, e⟩ := Option.map_eq_some_iff.1 h
  exact ⟨j, hj, by rw [e]; decide⟩
theorem startAt {L : List Nat} {n s : Nat} (h : nxt_ n 0 = s) : Value.pointer (some ⟨at_ L s, 0, none⟩) = .pointer (some ⟨at_ L (if n = 0 then 0 else n + 1 - n), 0, none⟩) := by
  rw [← h]; unfold nxt_
  by_cases e : n = 0
  · rw [if_pos e.symm, if_pos e]
  · rw [if_neg (Ne.symm e), if_neg e, show n + 1 - n = 0 + 1 by omega]
/-- Two links of a ring compared. -/
theorem ring_neq {w : World} {B : Nat} {L : List Nat} {ns : List Note} (h : Ring w B L ns) {i : Nat} (hi : i < L.length) (h0 : 1 ≤ i) :
    (binOp .neq 77 (.pointer (some ⟨at_ L i, 0, none⟩)) (.pointer (some ⟨at_ L 0, 0, none⟩))).run Try.prog w = .ok (.bool true) w := by
  obtain ⟨j, hj, hs⟩ := linkInfo
  obtain ⟨ca, ta, ha⟩ := h.blk i hi
  obtain ⟨cb, tb, hb⟩ := h.blk 0 (by omega)
  exact neq_other w Try.underlying77 hj hs (by intro e; injection e with e1 _; exact at_ne h hi h0 e1) ha hb
theorem ring_same (w : World) (b : Nat) : (binOp .neq 77 (.pointer (some ⟨b, 0, none⟩)) (.pointer (some ⟨b, 0, none⟩))).run Try.prog w = .ok (.bool false) w := by
  obtain ⟨j, hj, hs⟩ := linkInfo
  exact Lib.run_neq_ptr_same w _ Try.underlying77 hj

set_option maxRecDepth 100000 in
set_option maxHeartbeats 1000000 in
theorem before1_in (F : Fence) (d : Nat) (hg : F.fn 133) (hro : F.round = none) (hd : 1 ≤ d) (l Ba Bl B n₀ : Nat) (L : List Nat) (ns : List Note) (p s : Nat) (hp : p < L.length) (hs : s ≤ ns.length) (hps : pre_ ns.length p = s) (J Jx : List (Spot ns.length) → World → Prop)
    (hY : ∀ pre x W, J pre W → pre.length < (down ns.length s hs).length → YieldAt F (d - 1) Try.prog l #[ptr (at_ L x.1)] W fun e W' =>
      (e = .returned (.bool true) ∧ J (pre ++ [x]) W' ∧ Below n₀ W W') ∨ (e = .returned (.bool false) ∧ Jx (pre ++ [x]) W'))
    (W : World) (hBa : W.cell? ⟨Ba, 0, none⟩ = some (ptr (at_ L p))) (hBl : W.cell? ⟨Bl, 0, none⟩ = some (ptr (at_ L 0))) (hBl' : Bl < n₀) (hR : Ring W B L ns) (hLn : ∀ i, i < L.length → at_ L i < n₀) (hBn : B ≤ n₀) (h0 : J [] W) :
    CallsIn F d Try.prog 133 #[.func (.yield l) #[] #[], ptr Ba, ptr Bl] W fun e W' => (∃ v, e = .returned v) ∧
      ((∃ ys, ys = down ns.length s hs ∧ J ys W') ∨ (∃ pre, pre <+: down ns.length s hs ∧ Jx pre W')) := by
  have hpv := hR.prev p hp
  rw [hps] at hpv
  unfold ptr at hBa hBl hpv ⊢
  refine callsIn_of_wp Try.func133 rfl hg ?_ hro
  simp only [Try.ntmps133, List.size_toArray, List.length_cons, List.length_nil, Nat.reduceAdd, Nat.reduceSub, Array.replicate_succ, Array.replicate_zero, List.push_toArray, List.append_toArray, List.nil_append, List.cons_append]
  gi_wp2
  gi_loopw [4] (fun q wr => ∃ (pre : List (Spot ns.length)) (i : Nat) (hi : i ≤ ns.length), q = .pointer (some ⟨at_ L i, 0, none⟩) ∧ down ns.length s hs = pre ++ down ns.length i hi ∧ Ring wr B L ns ∧ wr.cell? ⟨Bl, 0, none⟩ = some (.pointer (some ⟨at_ L 0, 0, none⟩)) ∧ J pre wr)
    (fun q _ => idx L q)
  case atStart => exact ⟨[], s, hs, rfl, rfl, hR, hBl, h0⟩
  case round =>
    obtain ⟨pre, i, hi, rfl, hx, hRr, hBr, hJ⟩ := hrel
    have hlen := hRr.len
    cases i with
    | zero =>
      have hsame := ring_same wr (at_ L 0)
      gi_wp2
      go_end0
      exact ⟨⟨_, rfl⟩, .inl ⟨pre, by rw [hx]; simp [down], hJ⟩⟩
    | succ i =>
      have hneq := ring_neq hRr (show i + 1 < L.length by omega) (by omega)
      have hix := idx_at hRr (show i + 1 < L.length by omega)
      have hix' := idx_at hRr (show i < L.length by omega)
      have hq := hRr.prev (i + 1) (by omega)
      have hlt := hLn (i + 1) (by omega)
      simp only [pre_, Nat.add_sub_cancel, show ¬ i + 1 = 0 by omega, if_false] at hq
      unfold ptr at hq hix hix'
      obtain ⟨fn, tmps, assign, body, hy, hYR⟩ := hY pre ⟨i + 1, by omega, hi⟩ wr hJ (by rw [hx]; simp [down])
      unfold ptr at hy
      dsimp only at hy
      gi_wp2
      refine hYR.mono ?_
      rintro e W3 (⟨rfl, hJ3, hk3⟩ | ⟨rfl, hJx3⟩)
      · have hq3 := (hk3.cell (p := ⟨at_ L (i + 1), 4, none⟩) hlt).trans hq
        have hR3 := Lib.hid (hRr.below hk3 hBn hLn)
        have hB3 := (hk3.cell (p := ⟨Bl, 0, none⟩) hBl').trans hBr
        gi_wp2
        go_roundw
        case rel => exact ⟨pre ++ [⟨i + 1, by omega, hi⟩], i, by omega, rfl, by rw [hx]; simp [down], hR3.out, hB3, hJ3⟩
        case measure => rw [hix, hix']; omega
      · gi_wp2
        refine bodyPost_ret (results_none rfl _ _ _) rfl ?_
        exact ⟨⟨_, rfl⟩, .inr ⟨pre ++ [⟨i + 1, by omega, hi⟩], ⟨down ns.length i (by omega), by rw [hx]; simp [down]⟩, hJx3⟩⟩

/-- From the marker on, or from a note: all ahead of it, the nearest first. -/
theorem before_stops (F : Fence) (d : Nat) (hg : F.fn 133) (hro : F.round = none) (hd : 1 ≤ d) (Ba Bl B n₀ : Nat) (L : List Nat) (ns : List Note) (p s : Nat) (hp : p < L.length) (hs : s ≤ ns.length) (hps : pre_ ns.length p = s)
    (w : World) (hBa' : Ba < w.heap.size) (hBl0 : Bl < w.heap.size) (hBl' : Bl < n₀) (hBa : w.cell? ⟨Ba, 0, none⟩ = some (ptr (at_ L p))) (hBl : w.cell? ⟨Bl, 0, none⟩ = some (ptr (at_ L 0))) (hR : Ring w B L ns) (hLn : ∀ i, i < L.length → at_ L i < n₀) (hBn : B ≤ n₀) :
    SeqStopsK F d Try.prog 133 #[ptr Ba, ptr Bl] (fun x : Spot ns.length => #[ptr (at_ L x.1)]) (Below n₀) (fun ys => ys = down ns.length s hs) (fun pre => pre <+: down ns.length s hs) (down ns.length s hs).length w := fun l J Jx W hW _ _ hY h0 =>
  before1_in F d hg hro hd l Ba Bl B n₀ L ns p s hp hs hps J Jx hY W ((hW.cell (p := ⟨Ba, 0, none⟩) hBa').trans hBa) ((hW.cell (p := ⟨Bl, 0, none⟩) hBl0).trans hBl) hBl' (hR.onward hW) hLn hBn h0

set_option maxRecDepth 100000 in
set_option maxHeartbeats 1000000 in
theorem after1_in (F : Fence) (d : Nat) (hg : F.fn 119) (hro : F.round = none) (hd : 1 ≤ d) (l Ba Bl B n₀ : Nat) (L : List Nat) (ns : List Note) (J Jx : List (Spot ns.length) → World → Prop)
    (hY : ∀ pre x W, J pre W → pre.length < (upto ns.length ns.length (Nat.le_refl _)).length → YieldAt F (d - 1) Try.prog l #[ptr (at_ L x.1)] W fun e W' =>
      (e = .returned (.bool true) ∧ J (pre ++ [x]) W' ∧ Below n₀ W W') ∨ (e = .returned (.bool false) ∧ Jx (pre ++ [x]) W'))
    (W : World) (hBa : W.cell? ⟨Ba, 0, none⟩ = some (ptr (at_ L 0))) (hBl : W.cell? ⟨Bl, 0, none⟩ = some (ptr (at_ L 0))) (hBl' : Bl < n₀) (hR : Ring W B L ns) (hLn : ∀ i, i < L.length → at_ L i < n₀) (hBn : B ≤ n₀) (h0 : J [] W) :
    CallsIn F d Try.prog 119 #[.func (.yield l) #[] #[], ptr Ba, ptr Bl] W fun e W' => (∃ v, e = .returned v) ∧
      ((∃ ys, ys = upto ns.length ns.length (Nat.le_refl _) ∧ J ys W') ∨ (∃ pre, pre <+: upto ns.length ns.length (Nat.le_refl _) ∧ Jx pre W')) := by
  have hpv := hR.next 0 (by rw [hR.len]; omega)
  have hlen0 := hR.len
  obtain ⟨s0, hs0⟩ : ∃ s0, nxt_ ns.length 0 = s0 := ⟨_, rfl⟩
  rw [hs0] at hpv
  have hs1 := Lib.hid hs0
  clear hs0
  unfold ptr at hBa hBl hpv ⊢
  refine callsIn_of_wp Try.func119 rfl hg ?_ hro
  simp only [Try.ntmps119, List.size_toArray, List.length_cons, List.length_nil, Nat.reduceAdd, Nat.reduceSub, Array.replicate_succ, Array.replicate_zero, List.push_toArray, List.append_toArray, List.nil_append, List.cons_append]
  gi_wp2
  gi_loopw [4] (fun q wr => ∃ (pre : List (Spot ns.length)) (m : Nat) (hm : m ≤ ns.length), q = .pointer (some ⟨at_ L (if m = 0 then 0 else ns.length + 1 - m), 0, none⟩) ∧ upto ns.length ns.length (Nat.le_refl _) = pre ++ upto ns.length m hm ∧ Ring wr B L ns ∧ wr.cell? ⟨Bl, 0, none⟩ = some (.pointer (some ⟨at_ L 0, 0, none⟩)) ∧ J pre wr)
    (fun q _ => (ns.length + 1 - idx L q) % (ns.length + 1))
  case atStart => exact ⟨[], ns.length, Nat.le_refl _, startAt hs1.out, rfl, hR, hBl, h0⟩
  case round =>
    obtain ⟨pre, m, hm, rfl, hx, hRr, hBr, hJ⟩ := hrel
    have hlen := hRr.len
    cases m with
    | zero =>
      simp only [if_true]
      have hsame := ring_same wr (at_ L 0)
      gi_wp2
      go_end0
      exact ⟨⟨_, rfl⟩, .inl ⟨pre, by rw [hx]; simp [upto], hJ⟩⟩
    | succ m =>
      obtain ⟨i, hi⟩ : ∃ i, ns.length + 1 - (m + 1) = i := ⟨_, rfl⟩
      have hi1 : 1 ≤ i := by omega
      have hi2 : i ≤ ns.length := by omega
      simp only [Nat.add_one_ne_zero, if_false, hi]
      have hneq := ring_neq hRr (show i < L.length by omega) hi1
      have hix := idx_at hRr (show i < L.length by omega)
      have hq := hRr.next i (by omega)
      have hlt := hLn i (by omega)
      obtain ⟨t, ht⟩ : ∃ t, nxt_ ns.length i = t := ⟨_, rfl⟩
      have hix' := idx_at hRr (show t < L.length by rw [← ht]; unfold nxt_; split <;> omega)
      rw [ht] at hq
      unfold ptr at hq hix hix'
      have hsp := upto_cons hm hi hi1 hi2
      obtain ⟨fn, tmps, assign, body, hy, hYR⟩ := hY pre ⟨i, hi1, hi2⟩ wr hJ (by rw [hx, hsp]; simp)
      unfold ptr at hy
      dsimp only at hy
      gi_wp2
      refine hYR.mono ?_
      rintro e W3 (⟨rfl, hJ3, hk3⟩ | ⟨rfl, hJx3⟩)
      · have hq3 := (hk3.cell (p := ⟨at_ L i, 5, none⟩) hlt).trans hq
        have hR3 := Lib.hid (hRr.below hk3 hBn hLn)
        have hB3 := (hk3.cell (p := ⟨Bl, 0, none⟩) hBl').trans hBr
        gi_wp2
        go_roundw
        case rel =>
          refine ⟨pre ++ [⟨i, hi1, hi2⟩], m, by omega, ?_, by rw [hx, hsp]; simp, hR3.out, hB3, hJ3⟩
          rw [← ht]; unfold nxt_
          by_cases e : m = 0
          · rw [if_pos (by omega), if_pos e]
          · rw [if_neg (by omega), if_neg e, show i + 1 = ns.length + 1 - m by omega]
        case measure =>
          rw [hix, hix']
          by_cases e : m = 0
          · have h0 : t = 0 := by rw [← ht]; unfold nxt_; rw [if_pos (by omega)]
            rw [h0, Nat.sub_zero, Nat.mod_self, Nat.mod_eq_of_lt (by omega)]; omega
          · have h0 : t = i + 1 := by rw [← ht]; unfold nxt_; rw [if_neg (by omega)]
            rw [h0, Nat.mod_eq_of_lt (by omega), Nat.mod_eq_of_lt (by omega)]; omega
      · gi_wp2
        refine bodyPost_ret (results_none rfl _ _ _) rfl ?_
        exact ⟨⟨_, rfl⟩, .inr ⟨pre ++ [⟨i, hi1, hi2⟩], ⟨upto ns.length m (by omega), by rw [hx, hsp]; simp⟩, hJx3⟩⟩

/-- From the marker on: all, in order. -/
theorem after_stops (F : Fence) (d : Nat) (hg : F.fn 119) (hro : F.round = none) (hd : 1 ≤ d) (Ba Bl B n₀ : Nat) (L : List Nat) (ns : List Note)
    (w : World) (hBa' : Ba < w.heap.size) (hBl0 : Bl < w.heap.size) (hBl' : Bl < n₀) (hBa : w.cell? ⟨Ba, 0, none⟩ = some (ptr (at_ L 0))) (hBl : w.cell? ⟨Bl, 0, none⟩ = some (ptr (at_ L 0))) (hR : Ring w B L ns) (hLn : ∀ i, i < L.length → at_ L i < n₀) (hBn : B ≤ n₀) :
    SeqStopsK F d Try.prog 119 #[ptr Ba, ptr Bl] (fun x : Spot ns.length => #[ptr (at_ L x.1)]) (Below n₀) (fun ys => ys = upto ns.length ns.length (Nat.le_refl _)) (fun pre => pre <+: upto ns.length ns.length (Nat.le_refl _)) (upto ns.length ns.length (Nat.le_refl _)).length w := fun l J Jx W hW _ _ hY h0 =>
  after1_in F d hg hro hd l Ba Bl B n₀ L ns J Jx hY W ((hW.cell (p := ⟨Ba, 0, none⟩) hBa').trans hBa) ((hW.cell (p := ⟨Bl, 0, none⟩) hBl0).trans hBl) hBl' (hR.onward hW) hLn hBn h0

end Go.Proofs.Ytkamlibfcakblaa
