/- Texts that follow each other, merged: JaInts, PlanSh, JaPlan. -/
import Derived.Test.YtkamlibfcakblaaXFrame
import Derived.Test.YtkamlibfcakblaaXPlain
import Derived.Deep.QuietTactic
import Derived.BigQuiet
import Derived.Test.YtkamlibfcakblaaXMark
import Derived.Test.YtkamlibfcakblaaXHStr
import Derived.Test.YtkamlibfcakblaaXWrts

/- jaInts and jaIn of the laws. -/
namespace Go.Proofs.Ytkamlibfcakblaa
open Go.RowKit

set_option maxRecDepth 100000 in
theorem jaInts_any (w : World) (B : Nat) (v u : Value) (xs ys : List Int) (hv : Ints w B v xs) (hu : Ints w B u ys) :
    Calls Try.prog 22 #[v, u] w fun e w' => e = .returned (.bool (decide (xs = ys))) ∧ ∃ n, w' = w.drewN n := by
  obtain ⟨A, c, rfl, hc1, hc2, hrow⟩ := hv
  obtain ⟨A', c', rfl, hc1', hc2', hrow'⟩ := hu
  unfold maxLen at hc2 hc2'
  by_cases hl : xs.length = ys.length
  · have HL := Lib.hid hl
    have hl1 : xs.length ≤ ys.length := by omega
    have hl2 : ys.length ≤ xs.length := by omega
    have hbe : (((xs.length : Nat) : Int) != ((ys.length : Nat) : Int)) = false := by simp [hl]
    clear hl
    go_enter Try.func22, Try.ntmps22
    go_wp2
    go_loopw [5] (fun i wr => ∃ k n : Nat, k ≤ xs.length ∧ i = .int .i64 k ∧ Same xs ys k ∧ wr = w.drewN n) (fun i _ => xs.length - (intOf i).toNat)
    case atStart => exact ⟨0, 0, Nat.zero_le _, rfl, Same.start xs ys, rfl⟩
    case round =>
      obtain ⟨k, n, hk, rfl, hs, rfl⟩ := hrel
      by_cases hlt : k < xs.length
      · obtain ⟨b, off, rfl, hB, hcell⟩ := hrow (by omega)
        obtain ⟨b', off', rfl, hB', hcell'⟩ := hrow' (by omega)
        have hck := hcell k hlt
        have hck' := hcell' k (by omega)
        have hlt' : k < ys.length := by omega
        clear hcell hrow hcell' hrow'
        by_cases hn : nth xs k = nth ys k
        · have hs1 := hs.step hn
          have hb1 : (nth xs k != nth ys k) = false := by simp [hn]
          clear hn
          go_wp2
          go_quiet (fail)
          go_wp2
          go_roundw
          case rel => exact ⟨k + 1, _, by omega, by go_num, hs1, rfl⟩
          case measure => simp [intOf]; omega
        · have hne := Lib.hid (nth_ne hn)
          have hb1 : (nth xs k != nth ys k) = true := by simp [hn]
          clear hn
          go_wp2
          go_quiet (fail)
          go_wp2
          go_ret
          exact ⟨ret_bool (by simp [hne.out]), _, World.drewN_drewN _ _ _⟩
      · have hks : k = xs.length := by omega
        have HE := Lib.hid ((hks ▸ hs : Same xs ys xs.length).eq HL.out)
        clear hks hrow hrow'
        go_wp2
        go_ret
        exact ⟨ret_bool (by simp [HE.out]), _, rfl⟩
  · have hne := Lib.hid (len_ne hl)
    have hbe : (((xs.length : Nat) : Int) != ((ys.length : Nat) : Int)) = true := by simp; omega
    clear hl hrow hrow'
    go_enter Try.func22, Try.ntmps22
    go_wp2
    go_ret
    exact ⟨ret_bool (by simp [hne.out]), 0, rfl⟩

/-- A number is one of some. -/
def memB (xs : List Int) (n : Int) : Bool := xs.contains n
/-- None of the first k is it. -/
def NoneTo (xs : List Int) (n : Int) (k : Nat) : Prop := ∀ j, j < k → j < xs.length → nth xs j ≠ n
theorem NoneTo.start (xs : List Int) (n : Int) : NoneTo xs n 0 := fun j h => absurd h (by omega)
theorem NoneTo.step {xs : List Int} {n : Int} {k : Nat} (h : NoneTo xs n k) (hn : nth xs k ≠ n) : NoneTo xs n (k + 1) := by
  intro j hj hl
  rcases Nat.lt_or_ge j k with hlt | hge
  · exact h j hlt hl
  · have : j = k := by omega
    subst this; exact hn
theorem NoneTo.all {xs : List Int} {n : Int} (h : NoneTo xs n xs.length) : memB xs n = false := by
  unfold memB
  rw [List.contains_eq_mem, decide_eq_false_iff_not]
  intro hm
  obtain ⟨j, hj, e⟩ := List.getElem_of_mem hm
  have := h j hj hj
  rw [nth_get hj] at this
  exact this e
theorem memB_at {xs : List Int} {n : Int} {k : Nat} (hk : k < xs.length) (h : nth xs k = n) : memB xs n = true := by
  unfold memB
  rw [List.contains_eq_mem, decide_eq_true_iff]
  rw [nth_get hk] at h
  exact h ▸ List.getElem_mem hk
set_option maxRecDepth 100000 in
theorem jaIn_any (w : World) (B : Nat) (v : Value) (xs : List Int) (n : Int) (hv : Ints w B v xs) :
    Calls Try.prog 26 #[v, .int .i64 n] w fun e w' => e = .returned (.bool (memB xs n)) ∧ w = w' := by
  obtain ⟨A, c, rfl, hc1, hc2, hrow⟩ := hv
  unfold maxLen at hc2
  go_enter Try.func26, Try.ntmps26
  go_wp2
  go_loop [5] (fun i => ∃ k : Nat, k ≤ xs.length ∧ i = .int .i64 k ∧ NoneTo xs n k) (fun i => xs.length - (intOf i).toNat)
  case atStart => exact ⟨0, Nat.zero_le _, rfl, NoneTo.start xs n⟩
  case round =>
    obtain ⟨k, hk, rfl, hs⟩ := hrel
    by_cases hlt : k < xs.length
    · obtain ⟨b, off, rfl, hB, hcell⟩ := hrow (by omega)
      have hck := hcell k hlt
      clear hcell hrow
      by_cases hn : nth xs k = n
      · have HM := Lib.hid (memB_at hlt hn)
        have hb1 : (nth xs k == n) = true := by simp [hn]
        clear hn
        go_wp2
        go_ret
        exact ⟨ret_bool HM.out.symm, rfl⟩
      · have HS := Lib.hid (hs.step hn)
        have hb1 : (nth xs k == n) = false := by simp [hn]
        clear hn
        go_wp2
        go_round
        case rel => exact ⟨k + 1, by omega, by go_num, HS.out⟩
        case measure => simp [intOf]; omega
    · have hks : k = xs.length := by omega
      have HM := Lib.hid (NoneTo.all (hks ▸ hs : NoneTo xs n xs.length))
      clear hks hrow
      go_wp2
      go_ret
      exact ⟨ret_bool HM.out.symm, rfl⟩

end Go.Proofs.Ytkamlibfcakblaa

/- Plans: what they are, how they lie in memory. -/
namespace Go.Proofs.Ytkamlibfcakblaa
open Go.RowKit

/-- A plan: whether it may be, which names it holds, what it writes. -/
structure Plan where
  ok : Bool
  locks : List ByteArray
  writes : List Wr
def planSh : Sh Plan := (Sh.bool.pair (strsSh.pair wrsSh)).conv (fun x => (x.ok, x.locks, x.writes)) (fun p => ⟨p.1, p.2.1, p.2.2⟩) rfl
section
variable {w : World} {B : Nat} {S : Nat → Prop} {v : Value}
theorem plan_rel {cs : List Value} {x : Plan} : planSh.rel w B cs x ↔ ∃ u v, cs = [.bool x.ok, u, v] ∧ strSh.Row w B u x.locks ∧ wrSh.Row w B v x.writes := by
  constructor
  · rintro ⟨c1, c2, rfl, h1, c5, c6, rfl, ⟨u, rfl, h3⟩, v, rfl, h4⟩
    have h1' : c1 = [.bool x.ok] := h1
    subst h1'
    exact ⟨u, v, rfl, h3, h4⟩
  · rintro ⟨u, v, rfl, h3, h4⟩
    exact ⟨_, _, rfl, rfl, _, _, rfl, ⟨u, rfl, h3⟩, v, rfl, h4⟩
theorem plan_own {cs : List Value} {x : Plan} : planSh.own w S cs x ↔ ∃ u v S1 S2, cs = [.bool x.ok, u, v] ∧ strSh.Own 9 w S1 u x.locks ∧ wrSh.Own 86 w S2 v x.writes ∧ (∀ b, S1 b → S b) ∧ (∀ b, S2 b → S b) ∧ ∀ b, S1 b → S2 b → False := by
  constructor
  · rintro ⟨c1, c2, S1, S2, rfl, h1, ⟨c5, c6, S5, S6, rfl, ⟨u, rfl, h3⟩, ⟨v, rfl, h4⟩, s5, s6, d⟩, -, s2, -⟩
    have h1' : c1 = [.bool x.ok] := h1
    subst h1'
    exact ⟨u, v, S5, S6, rfl, h3, h4, fun b hb => s2 b (s5 b hb), fun b hb => s2 b (s6 b hb), d⟩
  · rintro ⟨u, v, S1, S2, rfl, h3, h4, s1, s2, d⟩
    exact ⟨_, _, fun _ => False, S, rfl, rfl, ⟨_, _, S1, S2, rfl, ⟨u, rfl, h3⟩, ⟨v, rfl, h4⟩, s1, s2, d⟩, fun _ h => h.elim, fun _ h => h, fun _ h _ => h⟩
end

/-- What a method that plans leaves: a plan of its own, and whether it is done there. -/
def Planned (pl : Plan) (here : Bool) (w : World) (e : Ending) (w' : World) : Prop :=
  ∃ u v, e = .returned (.tuple #[.agg #[.bool pl.ok, u, v], .bool here]) ∧ planSh.own w' (fun b => w.heap.size ≤ b ∧ b < w'.heap.size) [.bool pl.ok, u, v] pl ∧ Below w.heap.size w w'

section
variable {α : Type} {A : Sh α} {e : TypeId} {w : World}
/-- A literal of elements that own what they reach in blocks of S. -/
theorem Sh.Own.lit (A : Sh α) (e : TypeId) (w : World) (cells : Array Value) (xs : List α) (C : Nat → List Value) (F : Nat → Nat → Prop) (S : Nat → Prop) (hl : xs.length ≤ maxLen) (hC : cells.toList = flat C xs.length)
    (ho : ∀ j x, xs[j]? = some x → A.own w (F j) (C j) x ∧ ∀ b, F j b → S b ∧ b < w.heap.size) (hd : ∀ i j b, i < j → j < xs.length → F i b → ¬ F j b) :
    A.Own e (w.alloc (.cells cells e)) (fun b => S b ∨ b = w.heap.size) (.slice (some ⟨w.heap.size, 0, none⟩) xs.length xs.length) xs := by
  have hlen : cells.size = xs.length * A.wd := by
    have : cells.toList.length = xs.length * A.wd := by rw [hC]; exact flat_len fun j hj => A.olen (ho j _ (List.getElem?_eq_getElem hj)).1
    simpa using this
  refine ⟨C, F, ?_, fun g hg => .inr (Option.some.inj hg).symm, fun j x hx => ⟨A.okeep (ho j x hx).1 fun b _ hlt => (belowOne w (.cells cells e)).block b hlt, fun b hb => ⟨.inl ((ho j x hx).2 b hb).1, fun e1 => ?_⟩⟩, hd⟩
  · have h := World.ownsRow_lit (base := 0) (e := e) (size := A.wd) w cells xs.length (Nat.zero_le _) hl hlen
    rw [hC] at h; exact h
  · have h1 : w.heap.size = b := Option.some.inj e1
    have h2 := ((ho j x hx).2 b hb).2
    omega
end
theorem strs_lit (w : World) (xs : List ByteArray) (cells : Array Value) (hc : cells.toList = xs.map Value.string) (hx : ∀ x ∈ xs, x.size ≤ maxLen) (hl : xs.length ≤ maxLen) :
    strSh.Own 9 (w.alloc (.cells cells 9)) (fun b => b = w.heap.size) (.slice (some ⟨w.heap.size, 0, none⟩) xs.length xs.length) xs := by
  have h := Sh.Own.lit strSh 9 w cells xs (fun j => [.string (xs[j]?.getD ByteArray.empty)]) (fun _ _ => False) (fun _ => False) hl (by
    rw [hc]
    refine flat_ext (d := 1) (fun _ _ => rfl) (by simp) fun j i hj hi => ?_
    have hi0 : i = 0 := by omega
    subst hi0
    simp [hj]) (fun j x hx' => ⟨⟨by rw [hx']; rfl, hx x (List.mem_of_getElem? hx')⟩, fun _ h => h.elim⟩) (fun _ _ _ _ _ h => h.elim)
  exact h.mono fun b hb => hb.elim False.elim id
theorem ints_lit (w : World) (xs : List Int) (cells : Array Value) (hc : cells.toList = xs.map (Value.int .i64)) (hl : xs.length ≤ maxLen) :
    Sh.int.Own 3 (w.alloc (.cells cells 3)) (fun b => b = w.heap.size) (.slice (some ⟨w.heap.size, 0, none⟩) xs.length xs.length) xs := by
  have h := Sh.Own.lit Sh.int 3 w cells xs (fun j => [.int .i64 (xs[j]?.getD 0)]) (fun _ _ => False) (fun _ => False) hl (by
    rw [hc]
    refine flat_ext (d := 1) (fun _ _ => rfl) (by simp) fun j i hj hi => ?_
    have hi0 : i = 0 := by omega
    subst hi0
    simp [hj]) (fun j x hx' => ⟨by rw [hx']; rfl, fun _ h => h.elim⟩) (fun _ _ _ _ _ h => h.elim)
  exact h.mono fun b hb => hb.elim False.elim id
/-- One write, made of numbers that are owned. -/
theorem wrs_lit1 (w : World) (S : Nat → Prop) (key : ByteArray) (del : Bool) (u : Value) (xs : List Int) (hk : key.size ≤ maxLen) (hu : Sh.int.Own 3 w S u xs) (hS : ∀ b, S b → b < w.heap.size) :
    wrSh.Own 86 (w.alloc (.cells #[.string key, .bool del, u] 86)) (fun b => S b ∨ b = w.heap.size) (.slice (some ⟨w.heap.size, 0, none⟩) 1 1) [⟨key, del, xs⟩] := by
  refine Sh.Own.lit wrSh 86 w #[.string key, .bool del, u] [⟨key, del, xs⟩] (fun _ => [.string key, .bool del, u]) (fun _ => S) S (by unfold maxLen; simp) (by simp [flat]) (fun j x hx => ?_) (fun i j b hij hj => by simp at hj; omega)
  have : x = ⟨key, del, xs⟩ := by
    have := List.mem_of_getElem? hx
    simpa using this
  subst this
  exact ⟨wr_own.2 ⟨u, rfl, hk, hu⟩, fun b hb => ⟨hb, hS b hb⟩⟩
/-- Two writes. -/
theorem wrs_lit2 (w : World) (S1 S2 : Nat → Prop) (k1 k2 : ByteArray) (d1 d2 : Bool) (u1 u2 : Value) (xs ys : List Int) (hk1 : k1.size ≤ maxLen) (hk2 : k2.size ≤ maxLen) (h1 : Sh.int.Own 3 w S1 u1 xs) (h2 : Sh.int.Own 3 w S2 u2 ys) (hS1 : ∀ b, S1 b → b < w.heap.size) (hS2 : ∀ b, S2 b → b < w.heap.size) (hd : ∀ b, S1 b → ¬ S2 b) :
    wrSh.Own 86 (w.alloc (.cells #[.string k1, .bool d1, u1, .string k2, .bool d2, u2] 86)) (fun b => (S1 b ∨ S2 b) ∨ b = w.heap.size) (.slice (some ⟨w.heap.size, 0, none⟩) 2 2) [⟨k1, d1, xs⟩, ⟨k2, d2, ys⟩] := by
  refine Sh.Own.lit wrSh 86 w #[.string k1, .bool d1, u1, .string k2, .bool d2, u2] [⟨k1, d1, xs⟩, ⟨k2, d2, ys⟩] (fun j => if j = 0 then [.string k1, .bool d1, u1] else [.string k2, .bool d2, u2]) (fun j => if j = 0 then S1 else S2) (fun b => S1 b ∨ S2 b) (by unfold maxLen; simp) (by simp [flat, List.range_succ]) (fun j x hx => ?_) (fun i j b hij hj => ?_)
  · match j, hx with
    | 0, hx =>
      simp at hx; subst hx
      exact ⟨wr_own.2 ⟨u1, rfl, hk1, h1⟩, fun b hb => ⟨.inl hb, hS1 b hb⟩⟩
    | 1, hx =>
      simp at hx; subst hx
      exact ⟨wr_own.2 ⟨u2, rfl, hk2, h2⟩, fun b hb => ⟨.inr hb, hS2 b hb⟩⟩
    | j + 2, hx => simp at hx
  · have hj' : j = 1 := by simp at hj; omega
    have hi' : i = 0 := by omega
    subst hj' hi'
    simpa using hd b

end Go.Proofs.Ytkamlibfcakblaa

/- jaTexts, jaWrites and jaPlan of what is the same. -/
namespace Go.Proofs.Ytkamlibfcakblaa
open Go.RowKit

set_option maxRecDepth 100000 in
theorem jaTexts_same (w : World) (B : Nat) (v u : Value) (xs : List ByteArray) (hv : strSh.Row w B v xs) (hu : strSh.Row w B u xs) :
    Calls Try.prog 24 #[v, u] w fun e w' => e = .returned (.bool true) ∧ ∃ n, w' = w.drewN n := by
  obtain ⟨A, c, rfl, hc2, hc1⟩ := hv.form
  obtain ⟨A', c', rfl, hc2', hc1'⟩ := hu.form
  unfold maxLen at hc2 hc2'
  go_enter Try.func24, Try.ntmps24
  go_wp2
  go_loopw [5] (fun i wr => ∃ k n : Nat, k ≤ xs.length ∧ i = .int .i64 k ∧ wr = w.drewN n) (fun i _ => xs.length - (intOf i).toNat)
  case atStart => exact ⟨0, 0, Nat.zero_le _, rfl, rfl⟩
  case round =>
    obtain ⟨k, n, hk, rfl, rfl⟩ := hrel
    by_cases hlt : k < xs.length
    · obtain ⟨b, off, d, x, e1, hx, hB, hs, cu⟩ := strs_at hv hlt
      obtain ⟨b2, off2, d2, x2, e2, hx2, hB2, hs2, cu2⟩ := strs_at hu hlt
      rw [hx] at hx2
      injection hx2 with hx2
      subst hx2
      injection e1 with e1a e1b e1c
      injection e2 with e2a e2b e2c
      subst e1a e2a
      have f3 : (0 : Int) ≤ (k : Int) := by omega
      have f4 : (k : Int) < (xs.length : Int) := by omega
      clear e1b e1c e2b e2c hv hu hx hs hs2
      go_wp2
      go_quiet (fail)
      go_wp2
      go_roundw
      case rel => exact ⟨k + 1, _, by omega, by go_num, rfl⟩
      case measure => simp [intOf]; omega
    · clear hv hu
      go_wp2
      go_ret
      exact ⟨rfl, _, rfl⟩

set_option maxRecDepth 100000 in
set_option maxHeartbeats 4000000 in
theorem jaWrites_same (w : World) (v u : Value) (ws : List Wr) (hv : wrSh.Row w w.heap.size v ws) (hu : wrSh.Row w w.heap.size u ws) :
    Calls Try.prog 118 #[v, u] w fun e w' => e = .returned (.bool true) ∧ Below w.heap.size w w' := by
  obtain ⟨A, c, rfl, hc2, hc1⟩ := hv.form
  obtain ⟨A', c', rfl, hc2', hc1'⟩ := hu.form
  unfold maxLen at hc2 hc2'
  go_enter Try.func118, Try.ntmps118
  go_wp2
  go_loopw [5] (fun i wr => ∃ k : Nat, k ≤ ws.length ∧ i = .int .i64 k ∧ Below w.heap.size w wr) (fun i _ => ws.length - (intOf i).toNat)
  case atStart => exact ⟨0, Nat.zero_le _, rfl, Below.refl _ _⟩
  case round =>
    obtain ⟨k, hk, rfl, hb⟩ := hrel
    by_cases hlt : k < ws.length
    · obtain ⟨b, off, d, x, cs, e1, hx, hB, hr, hc⟩ := (hv.below hb).at_ hlt
      obtain ⟨b2, off2, d2, x2, cs2, e2, hx2, hB2, hr2, hcc⟩ := (hu.below hb).at_ hlt
      rw [hx] at hx2
      injection hx2 with hx2
      subst hx2
      obtain ⟨p, rfl, hs, hp⟩ := wr_rel.1 hr
      obtain ⟨p2, rfl, hs2, hp2⟩ := wr_rel.1 hr2
      obtain ⟨Ap, cp, rfl, -, -⟩ := hp.form
      obtain ⟨Ap2, cp2, rfl, -, -⟩ := hp2.form
      have c0 : wr.drew.cell? ⟨b, off + k * 3, none⟩ = some (.string x.key) := hc 0 _ rfl
      have c1 : wr.drew.cell? ⟨b, off + k * 3 + 1, none⟩ = some (.bool x.del) := hc 1 _ rfl
      have c2 : wr.drew.cell? ⟨b, off + k * 3 + 2, none⟩ = some (.slice Ap x.val.length cp) := hc 2 _ rfl
      have g0 : wr.drew.cell? ⟨b2, off2 + k * 3, none⟩ = some (.string x.key) := hcc 0 _ rfl
      have g1 : wr.drew.cell? ⟨b2, off2 + k * 3 + 1, none⟩ = some (.bool x.del) := hcc 1 _ rfl
      have g2 : wr.drew.cell? ⟨b2, off2 + k * 3 + 2, none⟩ = some (.slice Ap2 x.val.length cp2) := hcc 2 _ rfl
      injection e1 with e1a e1b e1c
      injection e2 with e2a e2b e2c
      subst e1a e2a
      have HP := Lib.hid (show Ints wr.drew wr.drew.heap.size _ x.val from ints_row.1 (hp.more hb.size))
      have HP2 := Lib.hid (show Ints wr.drew wr.drew.heap.size _ x.val from ints_row.1 (hp2.more hb.size))
      have HB := Lib.hid hb
      have k0 := And.intro c0 (And.intro c1 (And.intro c2 (And.intro g0 (And.intro g1 g2))))
      have f3 : (0 : Int) ≤ (k : Int) := by omega
      have f4 : (k : Int) < (ws.length : Int) := by omega
      clear e1b e1c e2b e2c hv hu hx hp hp2 hb hc hcc hr hr2 c0 c1 c2 g0 g1 g2
      go_wp2
      refine wp_region_held_drew (S := (fun w' => w'.cell? ⟨b, off + k * 3, none⟩ = some (.string x.key) ∧ w'.cell? ⟨b, off + k * 3 + 1, none⟩ = some (.bool x.del) ∧ w'.cell? ⟨b, off + k * 3 + 2, none⟩ = some (.slice Ap x.val.length cp) ∧ w'.cell? ⟨b2, off2 + k * 3, none⟩ = some (.string x.key) ∧ w'.cell? ⟨b2, off2 + k * 3 + 1, none⟩ = some (.bool x.del) ∧ w'.cell? ⟨b2, off2 + k * 3 + 2, none⟩ = some (.slice Ap2 x.val.length cp2))) (by kernel_rfl) ?hSr (fun hHeldr => ?str)
      case hSr => (first | (dsimp only; (exact k0)) | (exact k0))
      refine take_first 0 17 (v := ?vr_1) rfl rfl (by kernel_rfl) (by kernel_rfl) (by kernel_rfl) (fun _ _ _ h => h) (by rfl) ?yr_1 (by assumption) ?rr_1
      case yr_1 => (intro w hSw; (try dsimp only at hSw); go_simp; (try with_reducible rfl))
      simp only [Act.put, List.setIfInBounds_toArray, List.set_cons_zero, List.set_cons_succ]
      refine take_first 1 18 (v := ?vr_2) rfl rfl (by kernel_rfl) (by kernel_rfl) (by kernel_rfl) (fun _ _ _ h => h) (by rfl) ?yr_2 (by assumption) ?rr_2
      case yr_2 => (intro w hSw; (try dsimp only at hSw); go_simp; (try with_reducible rfl))
      simp only [Act.put, List.setIfInBounds_toArray, List.set_cons_zero, List.set_cons_succ]
      refine take_first 2 19 (v := ?vr_3) rfl rfl (by kernel_rfl) (by kernel_rfl) (by kernel_rfl) (fun _ _ _ h => h) (by rfl) ?yr_3 (by assumption) ?rr_3
      case yr_3 => (intro w hSw; (try dsimp only at hSw); go_simp; (try with_reducible rfl))
      simp only [Act.put, List.setIfInBounds_toArray, List.set_cons_zero, List.set_cons_succ]
      refine take_first 3 20 (v := ?vr_4) rfl rfl (by kernel_rfl) (by kernel_rfl) (by kernel_rfl) (fun _ _ _ h => h) (by rfl) ?yr_4 (by assumption) ?rr_4
      case yr_4 => (intro w hSw; (try dsimp only at hSw); go_simp; (try with_reducible rfl))
      simp only [Act.put, List.setIfInBounds_toArray, List.set_cons_zero, List.set_cons_succ]
      refine take_first 4 21 (v := ?vr_5) rfl rfl (by kernel_rfl) (by kernel_rfl) (by kernel_rfl) (fun _ _ _ h => h) (by rfl) ?yr_5 (by assumption) ?rr_5
      case yr_5 => (intro w hSw; (try dsimp only at hSw); go_simp; (try with_reducible rfl))
      simp only [Act.put, List.setIfInBounds_toArray, List.set_cons_zero, List.set_cons_succ]
      refine take_first 5 22 (v := ?vr_6) rfl rfl (by kernel_rfl) (by kernel_rfl) (by kernel_rfl) (fun _ _ _ h => h) (by rfl) ?yr_6 (by assumption) ?rr_6
      case yr_6 => (intro w hSw; (try dsimp only at hSw); go_simp; (try with_reducible rfl))
      simp only [Act.put, List.setIfInBounds_toArray, List.set_cons_zero, List.set_cons_succ]
      refine take_first 6 23 (v := ?vr_7) rfl rfl (by kernel_rfl) (by kernel_rfl) (by kernel_rfl) (fun _ _ _ h => h) (by rfl) ?yr_7 (by assumption) ?rr_7
      case yr_7 => (intro w hSw; (try dsimp only at hSw); go_simp; (try with_reducible rfl))
      simp only [Act.put, List.setIfInBounds_toArray, List.set_cons_zero, List.set_cons_succ]
      refine take_first 7 24 (v := ?vr_8) rfl rfl (by kernel_rfl) (by kernel_rfl) (by kernel_rfl) (fun _ _ _ h => h) (by rfl) ?yr_8 (by assumption) ?rr_8
      case yr_8 => (intro w hSw; (try dsimp only at hSw); go_simp; (try with_reducible rfl))
      simp only [Act.put, List.setIfInBounds_toArray, List.set_cons_zero, List.set_cons_succ]
      refine take_first 8 25 (v := ?vr_9) rfl rfl (by kernel_rfl) (by kernel_rfl) (by kernel_rfl) (fun _ _ _ h => h) (by rfl) ?yr_9 (by assumption) ?rr_9
      case yr_9 => (intro w hSw; (try dsimp only at hSw); go_simp; (try with_reducible rfl))
      simp only [Act.put, List.setIfInBounds_toArray, List.set_cons_zero, List.set_cons_succ]
      refine take_first 9 26 (v := ?vr_10) rfl rfl (by kernel_rfl) (by kernel_rfl) (by kernel_rfl) (fun _ _ _ h => h) (by rfl) ?yr_10 (by assumption) ?rr_10
      case yr_10 => (intro w hSw; (try dsimp only at hSw); go_simp; (try with_reducible rfl))
      simp only [Act.put, List.setIfInBounds_toArray, List.set_cons_zero, List.set_cons_succ]
      refine take_first 10 27 (v := ?vr_11) rfl rfl (by kernel_rfl) (by kernel_rfl) (by kernel_rfl) (fun _ _ _ h => h) (by rfl) ?yr_11 (by assumption) ?rr_11
      case yr_11 => (intro w hSw; (try dsimp only at hSw); go_simp; (try with_reducible rfl))
      simp only [Act.put, List.setIfInBounds_toArray, List.set_cons_zero, List.set_cons_succ]
      refine take_first 11 28 (v := ?vr_12) rfl rfl (by kernel_rfl) (by kernel_rfl) (by kernel_rfl) (fun _ _ _ h => h) (by rfl) ?yr_12 (by assumption) ?rr_12
      case yr_12 => (intro w hSw; (try dsimp only at hSw); go_simp; (try with_reducible rfl))
      simp only [Act.put, List.setIfInBounds_toArray, List.set_cons_zero, List.set_cons_succ]
      refine take_first 12 29 (v := ?vr_13) rfl rfl (by kernel_rfl) (by kernel_rfl) (by kernel_rfl) (fun _ _ _ h => h) (by rfl) ?yr_13 (by assumption) ?rr_13
      case yr_13 => (intro w hSw; (try dsimp only at hSw); go_simp; (try with_reducible rfl))
      simp only [Act.put, List.setIfInBounds_toArray, List.set_cons_zero, List.set_cons_succ]
      refine take_first 13 30 (v := ?vr_14) rfl rfl (by kernel_rfl) (by kernel_rfl) (by kernel_rfl) (fun _ _ _ h => h) (by rfl) ?yr_14 (by assumption) ?rr_14
      case yr_14 => (intro w hSw; (try dsimp only at hSw); go_simp; (try with_reducible rfl))
      simp only [Act.put, List.setIfInBounds_toArray, List.set_cons_zero, List.set_cons_succ]
      refine take_first 14 31 (v := ?vr_15) rfl rfl (by kernel_rfl) (by kernel_rfl) (by kernel_rfl) (fun _ _ _ h => h) (by rfl) ?yr_15 (by assumption) ?rr_15
      case yr_15 => (intro w hSw; (try dsimp only at hSw); go_simp; (try with_reducible rfl))
      simp only [Act.put, List.setIfInBounds_toArray, List.set_cons_zero, List.set_cons_succ]
      refine take_first 15 32 (v := ?vr_16) rfl rfl (by kernel_rfl) (by kernel_rfl) (by kernel_rfl) (fun _ _ _ h => h) (by rfl) ?yr_16 (by assumption) ?rr_16
      case yr_16 => (intro w hSw; (try dsimp only at hSw); go_simp; (try with_reducible rfl))
      simp only [Act.put, List.setIfInBounds_toArray, List.set_cons_zero, List.set_cons_succ]
      refine take_first 16 33 (v := ?vr_17) rfl rfl (by kernel_rfl) (by kernel_rfl) (by kernel_rfl) (fun _ _ _ h => h) (by rfl) ?yr_17 (by assumption) ?rr_17
      case yr_17 => (intro w hSw; (try dsimp only at hSw); go_simp; (try with_reducible rfl))
      simp only [Act.put, List.setIfInBounds_toArray, List.set_cons_zero, List.set_cons_succ]
      refine take_first 17 34 (v := ?vr_18) rfl rfl (by kernel_rfl) (by kernel_rfl) (by kernel_rfl) (fun _ _ _ h => h) (by rfl) ?yr_18 (by assumption) ?rr_18
      case yr_18 => (intro w hSw; (try dsimp only at hSw); go_simp; (try with_reducible rfl))
      simp only [Act.put, List.setIfInBounds_toArray, List.set_cons_zero, List.set_cons_succ]
      refine take_first 18 35 (v := ?vr_19) rfl rfl (by kernel_rfl) (by kernel_rfl) (by kernel_rfl) (fun _ _ _ h => h) (by rfl) ?yr_19 (by assumption) ?rr_19
      case yr_19 => (intro w hSw; (try dsimp only at hSw); go_simp; (try with_reducible rfl))
      simp only [Act.put, List.setIfInBounds_toArray, List.set_cons_zero, List.set_cons_succ]
      refine take_first 19 36 (v := ?vr_20) rfl rfl (by kernel_rfl) (by kernel_rfl) (by kernel_rfl) (fun _ _ _ h => h) (by rfl) ?yr_20 (by assumption) ?rr_20
      case yr_20 => (intro w hSw; (try dsimp only at hSw); go_simp; (try with_reducible rfl))
      simp only [Act.put, List.setIfInBounds_toArray, List.set_cons_zero, List.set_cons_succ]
      refine take_first 20 37 (v := ?vr_21) rfl rfl (by kernel_rfl) (by kernel_rfl) (by kernel_rfl) (fun _ _ _ h => h) (by rfl) ?yr_21 (by assumption) ?rr_21
      case yr_21 => (intro w hSw; (try dsimp only at hSw); go_simp; (try with_reducible rfl))
      simp only [Act.put, List.setIfInBounds_toArray, List.set_cons_zero, List.set_cons_succ]
      refine take_first 21 38 (v := ?vr_22) rfl rfl (by kernel_rfl) (by kernel_rfl) (by kernel_rfl) (fun _ _ _ h => h) (by rfl) ?yr_22 (by assumption) ?rr_22
      case yr_22 => (intro w hSw; (try dsimp only at hSw); go_simp; (try with_reducible rfl))
      simp only [Act.put, List.setIfInBounds_toArray, List.set_cons_zero, List.set_cons_succ]
      refine take_first 22 39 (v := ?vr_23) rfl rfl (by kernel_rfl) (by kernel_rfl) (by kernel_rfl) (fun _ _ _ h => h) (by rfl) ?yr_23 (by assumption) ?rr_23
      case yr_23 => (intro w hSw; (try dsimp only at hSw); go_simp; (try with_reducible rfl))
      simp only [Act.put, List.setIfInBounds_toArray, List.set_cons_zero, List.set_cons_succ]
      refine take_first 23 40 (v := ?vr_24) rfl rfl (by kernel_rfl) (by kernel_rfl) (by kernel_rfl) (fun _ _ _ h => h) (by rfl) ?yr_24 (by assumption) ?rr_24
      case yr_24 => (intro w hSw; (try dsimp only at hSw); go_simp; (try with_reducible rfl))
      simp only [Act.put, List.setIfInBounds_toArray, List.set_cons_zero, List.set_cons_succ]
      refine take_first 24 41 (v := ?vr_25) rfl rfl (by kernel_rfl) (by kernel_rfl) (by kernel_rfl) (fun _ _ _ h => h) (by rfl) ?yr_25 (by assumption) ?rr_25
      case yr_25 => (intro w hSw; (try dsimp only at hSw); go_simp; (try with_reducible rfl))
      simp only [Act.put, List.setIfInBounds_toArray, List.set_cons_zero, List.set_cons_succ]
      refine take_first 25 42 (v := ?vr_26) rfl rfl (by kernel_rfl) (by kernel_rfl) (by kernel_rfl) (fun _ _ _ h => h) (by rfl) ?yr_26 (by assumption) ?rr_26
      case yr_26 => (intro w hSw; (try dsimp only at hSw); go_simp; (try with_reducible rfl))
      simp only [Act.put, List.setIfInBounds_toArray, List.set_cons_zero, List.set_cons_succ]
      refine take_first 26 43 (v := ?vr_27) rfl rfl (by kernel_rfl) (by kernel_rfl) (by kernel_rfl) (fun _ _ _ h => h) (by rfl) ?yr_27 (by assumption) ?rr_27
      case yr_27 => (intro w hSw; (try dsimp only at hSw); go_simp; (try with_reducible rfl))
      simp only [Act.put, List.setIfInBounds_toArray, List.set_cons_zero, List.set_cons_succ]
      refine take_first 27 44 (v := ?vr_28) rfl rfl (by kernel_rfl) (by kernel_rfl) (by kernel_rfl) (fun _ _ _ h => h) (by rfl) ?yr_28 (by assumption) ?rr_28
      case yr_28 => (intro w hSw; (try dsimp only at hSw); go_simp; (try with_reducible rfl))
      simp only [Act.put, List.setIfInBounds_toArray, List.set_cons_zero, List.set_cons_succ]
      refine take_first 28 45 (v := ?vr_29) rfl rfl (by kernel_rfl) (by kernel_rfl) (by kernel_rfl) (fun _ _ _ h => h) (by rfl) ?yr_29 (by assumption) ?rr_29
      case yr_29 => (intro w hSw; (try dsimp only at hSw); go_simp; (try with_reducible rfl))
      simp only [Act.put, List.setIfInBounds_toArray, List.set_cons_zero, List.set_cons_succ]
      refine take_first 29 46 (v := ?vr_30) rfl rfl (by kernel_rfl) (by kernel_rfl) (by kernel_rfl) (fun _ _ _ h => h) (by rfl) ?yr_30 (by assumption) ?rr_30
      case yr_30 => (intro w hSw; (try dsimp only at hSw); go_simp; (try with_reducible rfl))
      simp only [Act.put, List.setIfInBounds_toArray, List.set_cons_zero, List.set_cons_succ]
      refine take_first 30 47 (v := ?vr_31) rfl rfl (by kernel_rfl) (by kernel_rfl) (by kernel_rfl) (fun _ _ _ h => h) (by rfl) ?yr_31 (by assumption) ?rr_31
      case yr_31 => (intro w hSw; (try dsimp only at hSw); go_simp; (try with_reducible rfl))
      simp only [Act.put, List.setIfInBounds_toArray, List.set_cons_zero, List.set_cons_succ]
      refine take_first 31 48 (v := ?vr_32) rfl rfl (by kernel_rfl) (by kernel_rfl) (by kernel_rfl) (fun _ _ _ h => h) (by rfl) ?yr_32 (by assumption) ?rr_32
      case yr_32 => (intro w hSw; (try dsimp only at hSw); go_simp; (try with_reducible rfl))
      simp only [Act.put, List.setIfInBounds_toArray, List.set_cons_zero, List.set_cons_succ]
      refine take_first 32 49 (v := ?vr_33) rfl rfl (by kernel_rfl) (by kernel_rfl) (by kernel_rfl) (fun _ _ _ h => h) (by rfl) ?yr_33 (by assumption) ?rr_33
      case yr_33 => (intro w hSw; (try dsimp only at hSw); go_simp; (try with_reducible rfl))
      simp only [Act.put, List.setIfInBounds_toArray, List.set_cons_zero, List.set_cons_succ]
      refine take_first 33 50 (v := ?vr_34) rfl rfl (by kernel_rfl) (by kernel_rfl) (by kernel_rfl) (fun _ _ _ h => h) (by rfl) ?yr_34 (by assumption) ?rr_34
      case yr_34 => (intro w hSw; (try dsimp only at hSw); go_simp; (try with_reducible rfl))
      simp only [Act.put, List.setIfInBounds_toArray, List.set_cons_zero, List.set_cons_succ]
      refine take_first 34 51 (v := ?vr_35) rfl rfl (by kernel_rfl) (by kernel_rfl) (by kernel_rfl) (fun _ _ _ h => h) (by rfl) ?yr_35 (by assumption) ?rr_35
      case yr_35 => (intro w hSw; (try dsimp only at hSw); go_simp; (try with_reducible rfl))
      simp only [Act.put, List.setIfInBounds_toArray, List.set_cons_zero, List.set_cons_succ]
      refine wpAnyH_ready (rs := [35]) (by kernel_rfl) (by simp) ?_
      refine AllReadyH.cons (o := _) rfl (fun Kr_36 hKr_36 => ?cr_36) ?mr_36
      case mr_36 => exact AllReadyH.nil
      go_simp
      refine (jaInts_any _ _ _ _ x.val x.val HP.out HP2.out).mono ?_; rintro e w1 ⟨rfl, n, rfl⟩; rw [show decide (x.val = x.val) = true from decide_eq_true rfl]
      go_wp2_with fail
      refine hKr_36.out _ _ ?kr_36 (fun hHeldr_36 => ?dr_36)
      case kr_36 => (first | (dsimp only; (exact k0)) | (exact k0))
      clear hKr_36 Kr_36
      refine take_first 36 53 (v := ?vr_37) rfl rfl (by kernel_rfl) (by kernel_rfl) (by kernel_rfl) (fun _ _ _ h => h) (by rfl) ?yr_37 (by assumption) ?rr_37
      case yr_37 => (intro w hSw; (try dsimp only at hSw); go_simp; (try with_reducible rfl))
      simp only [Act.put, List.setIfInBounds_toArray, List.set_cons_zero, List.set_cons_succ]
      refine take_first 37 54 (v := ?vr_38) rfl rfl (by kernel_rfl) (by kernel_rfl) (by kernel_rfl) (fun _ _ _ h => h) (by rfl) ?yr_38 (by assumption) ?rr_38
      case yr_38 => (intro w hSw; (try dsimp only at hSw); go_simp; (try with_reducible rfl))
      simp only [Act.put, List.setIfInBounds_toArray, List.set_cons_zero, List.set_cons_succ]
      refine wpAnyH_done (by kernel_rfl) ?er _
      clear k0
      go_wp2
      go_roundw
      case rel => exact ⟨k + 1, by omega, by go_num, belowDraws HB.out (1 + n)⟩
      case measure => simp [intOf]; omega
    · clear hv hu
      go_wp2
      go_ret
      exact ⟨rfl, hb⟩

/-- A plan that is read. -/
def PlanRd (w : World) (B : Nat) (cs : List Value) (pl : Plan) : Prop := planSh.rel w B cs pl
end Go.Proofs.Ytkamlibfcakblaa
