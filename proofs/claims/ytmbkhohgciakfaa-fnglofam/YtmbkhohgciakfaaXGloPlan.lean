/- Texts that follow each other, merged: GloPlan, PlanSh, Itoa, SecSum. -/
import Derived.Test.YtmbkhohgciakfaaXRegLast
import Derived.Defers
import Derived.Test.YtmbkhohgciakfaaXMark
import Derived.Test.YtmbkhohgciakfaaXHStr
import Derived.Test.YtmbkhohgciakfaaXDrawKey
import Derived.Test.YtmbkhohgciakfaaXFrame

/- (*attempt).plan: the function that it defers. -/
namespace Go.Proofs.Ytmbkhohgciakfaa
open Go.RowKit

set_option maxRecDepth 100000 in
theorem planBack_any (u : FrameMode) (w : World) (r q p : Nat) (ok : Bool) (us uw : Value) (hr : Held w r [.bool ok]) (hq : Held w q [.pointer (some ⟨p, 0, none⟩)]) (hp : Held w p [us, uw]) :
    CallsD Try.prog 60 #[.pointer (some ⟨r, 0, none⟩), .pointer (some ⟨q, 0, none⟩)] u w fun e u' w' => u' = u ∧ (e = .returned (.tuple #[]) ∧ w' = if ok then w else w.setCell ⟨p, 1, none⟩ (.slice none 0 0)) := by
  have c0 := hr.of 0 _ rfl
  have c1 := hq.of 0 _ rfl
  have c2 := hp.of 0 _ rfl
  have c3 := hp.of 1 _ rfl
  have cf := hp.2.1 1
  clear hr hq hp
  cases ok
  · go_enter_d Try.func60, Try.ntmps60
    go_wp2
    go_end0
    exact ⟨rfl, rfl⟩
  · go_enter_d Try.func60, Try.ntmps60
    go_wp2
    go_end0
    exact ⟨rfl, rfl⟩

end Go.Proofs.Ytmbkhohgciakfaa

/- Plans: what they are, how they lie in memory. -/
namespace Go.Proofs.Ytmbkhohgciakfaa
open Go.RowKit

/-- A plan: whether it may be, which names it holds, what it writes. -/
structure Plan where
  ok : Bool
  locks : List ByteArray
  writes : List Wr
def planSh : Sh Plan := (Sh.bool.pair (strsSh.pair wrsSh)).conv (fun x => (x.ok, x.locks, x.writes)) (fun p => ⟨p.1, p.2.1, p.2.2⟩) rfl
section
variable {w : World} {B : Nat} {S : Nat → Prop} {v : Value}
theorem plan_rel {cs : List Value} {x : Plan} : planSh.rel w B cs x ↔ ∃ u v, cs = [.bool x.ok, u, v] ∧ strSh.Row w B u x.locks ∧ wrSh.Row w B v x.writes := by
  constructor
  · rintro ⟨c1, c2, rfl, h1, c5, c6, rfl, ⟨u, rfl, h3⟩, v, rfl, h4⟩
    have h1' : c1 = [.bool x.ok] := h1
    subst h1'
    exact ⟨u, v, rfl, h3, h4⟩
  · rintro ⟨u, v, rfl, h3, h4⟩
    exact ⟨_, _, rfl, rfl, _, _, rfl, ⟨u, rfl, h3⟩, v, rfl, h4⟩
theorem plan_own {cs : List Value} {x : Plan} : planSh.own w S cs x ↔ ∃ u v S1 S2, cs = [.bool x.ok, u, v] ∧ strSh.Own 9 w S1 u x.locks ∧ wrSh.Own 54 w S2 v x.writes ∧ (∀ b, S1 b → S b) ∧ (∀ b, S2 b → S b) ∧ ∀ b, S1 b → S2 b → False := by
  constructor
  · rintro ⟨c1, c2, S1, S2, rfl, h1, ⟨c5, c6, S5, S6, rfl, ⟨u, rfl, h3⟩, ⟨v, rfl, h4⟩, s5, s6, d⟩, -, s2, -⟩
    have h1' : c1 = [.bool x.ok] := h1
    subst h1'
    exact ⟨u, v, S5, S6, rfl, h3, h4, fun b hb => s2 b (s5 b hb), fun b hb => s2 b (s6 b hb), d⟩
  · rintro ⟨u, v, S1, S2, rfl, h3, h4, s1, s2, d⟩
    exact ⟨_, _, fun _ => False, S, rfl, rfl, ⟨_, _, S1, S2, rfl, ⟨u, rfl, h3⟩, ⟨v, rfl, h4⟩, s1, s2, d⟩, fun _ h => h.elim, fun _ h => h, fun _ h _ => h⟩
end

/-- What a method that plans leaves: a plan of its own, and whether it is done there. -/
def Planned (pl : Plan) (here : Bool) (w : World) (e : Ending) (w' : World) : Prop :=
  ∃ u v, e = .returned (.tuple #[.agg #[.bool pl.ok, u, v], .bool here]) ∧ planSh.own w' (fun b => w.heap.size ≤ b ∧ b < w'.heap.size) [.bool pl.ok, u, v] pl ∧ Below w.heap.size w w'

section
variable {α : Type} {A : Sh α} {e : TypeId} {w : World}
/-- A literal of elements that own what they reach in blocks of S. -/
theorem Sh.Own.lit (A : Sh α) (e : TypeId) (w : World) (cells : Array Value) (xs : List α) (C : Nat → List Value) (F : Nat → Nat → Prop) (S : Nat → Prop) (hl : xs.length ≤ maxLen) (hC : cells.toList = flat C xs.length)
    (ho : ∀ j x, xs[j]? = some x → A.own w (F j) (C j) x ∧ ∀ b, F j b → S b ∧ b < w.heap.size) (hd : ∀ i j b, i < j → j < xs.length → F i b → ¬ F j b) :
    A.Own e (w.alloc (.cells cells e)) (fun b => S b ∨ b = w.heap.size) (.slice (some ⟨w.heap.size, 0, none⟩) xs.length xs.length) xs := by
  have hlen : cells.size = xs.length * A.wd := by
    have : cells.toList.length = xs.length * A.wd := by rw [hC]; exact flat_len fun j hj => A.olen (ho j _ (List.getElem?_eq_getElem hj)).1
    simpa using this
  refine ⟨C, F, ?_, fun g hg => .inr (Option.some.inj hg).symm, fun j x hx => ⟨A.okeep (ho j x hx).1 fun b _ hlt => (belowOne w (.cells cells e)).block b hlt, fun b hb => ⟨.inl ((ho j x hx).2 b hb).1, fun e1 => ?_⟩⟩, hd⟩
  · have h := World.ownsRow_lit (base := 0) (e := e) (size := A.wd) w cells xs.length (Nat.zero_le _) hl hlen
    rw [hC] at h; exact h
  · have h1 : w.heap.size = b := Option.some.inj e1
    have h2 := ((ho j x hx).2 b hb).2
    omega
end
theorem strs_lit (w : World) (xs : List ByteArray) (cells : Array Value) (hc : cells.toList = xs.map Value.string) (hx : ∀ x ∈ xs, x.size ≤ maxLen) (hl : xs.length ≤ maxLen) :
    strSh.Own 9 (w.alloc (.cells cells 9)) (fun b => b = w.heap.size) (.slice (some ⟨w.heap.size, 0, none⟩) xs.length xs.length) xs := by
  have h := Sh.Own.lit strSh 9 w cells xs (fun j => [.string (xs[j]?.getD ByteArray.empty)]) (fun _ _ => False) (fun _ => False) hl (by
    rw [hc]
    refine flat_ext (d := 1) (fun _ _ => rfl) (by simp) fun j i hj hi => ?_
    have hi0 : i = 0 := by omega
    subst hi0
    simp [hj]) (fun j x hx' => ⟨⟨by rw [hx']; rfl, hx x (List.mem_of_getElem? hx')⟩, fun _ h => h.elim⟩) (fun _ _ _ _ _ h => h.elim)
  exact h.mono fun b hb => hb.elim False.elim id
theorem ints_lit (w : World) (xs : List Int) (cells : Array Value) (hc : cells.toList = xs.map (Value.int .i64)) (hl : xs.length ≤ maxLen) :
    Sh.int.Own 3 (w.alloc (.cells cells 3)) (fun b => b = w.heap.size) (.slice (some ⟨w.heap.size, 0, none⟩) xs.length xs.length) xs := by
  have h := Sh.Own.lit Sh.int 3 w cells xs (fun j => [.int .i64 (xs[j]?.getD 0)]) (fun _ _ => False) (fun _ => False) hl (by
    rw [hc]
    refine flat_ext (d := 1) (fun _ _ => rfl) (by simp) fun j i hj hi => ?_
    have hi0 : i = 0 := by omega
    subst hi0
    simp [hj]) (fun j x hx' => ⟨by rw [hx']; rfl, fun _ h => h.elim⟩) (fun _ _ _ _ _ h => h.elim)
  exact h.mono fun b hb => hb.elim False.elim id
/-- One write, made of numbers that are owned. -/
theorem wrs_lit1 (w : World) (S : Nat → Prop) (key : ByteArray) (del : Bool) (u : Value) (xs : List Int) (hk : key.size ≤ maxLen) (hu : Sh.int.Own 3 w S u xs) (hS : ∀ b, S b → b < w.heap.size) :
    wrSh.Own 54 (w.alloc (.cells #[.string key, .bool del, u] 54)) (fun b => S b ∨ b = w.heap.size) (.slice (some ⟨w.heap.size, 0, none⟩) 1 1) [⟨key, del, xs⟩] := by
  refine Sh.Own.lit wrSh 54 w #[.string key, .bool del, u] [⟨key, del, xs⟩] (fun _ => [.string key, .bool del, u]) (fun _ => S) S (by unfold maxLen; simp) (by simp [flat]) (fun j x hx => ?_) (fun i j b hij hj => by simp at hj; omega)
  have : x = ⟨key, del, xs⟩ := by
    have := List.mem_of_getElem? hx
    simpa using this
  subst this
  exact ⟨wr_own.2 ⟨u, rfl, hk, hu⟩, fun b hb => ⟨hb, hS b hb⟩⟩
/-- Two writes. -/
theorem wrs_lit2 (w : World) (S1 S2 : Nat → Prop) (k1 k2 : ByteArray) (d1 d2 : Bool) (u1 u2 : Value) (xs ys : List Int) (hk1 : k1.size ≤ maxLen) (hk2 : k2.size ≤ maxLen) (h1 : Sh.int.Own 3 w S1 u1 xs) (h2 : Sh.int.Own 3 w S2 u2 ys) (hS1 : ∀ b, S1 b → b < w.heap.size) (hS2 : ∀ b, S2 b → b < w.heap.size) (hd : ∀ b, S1 b → ¬ S2 b) :
    wrSh.Own 54 (w.alloc (.cells #[.string k1, .bool d1, u1, .string k2, .bool d2, u2] 54)) (fun b => (S1 b ∨ S2 b) ∨ b = w.heap.size) (.slice (some ⟨w.heap.size, 0, none⟩) 2 2) [⟨k1, d1, xs⟩, ⟨k2, d2, ys⟩] := by
  refine Sh.Own.lit wrSh 54 w #[.string k1, .bool d1, u1, .string k2, .bool d2, u2] [⟨k1, d1, xs⟩, ⟨k2, d2, ys⟩] (fun j => if j = 0 then [.string k1, .bool d1, u1] else [.string k2, .bool d2, u2]) (fun j => if j = 0 then S1 else S2) (fun b => S1 b ∨ S2 b) (by unfold maxLen; simp) (by simp [flat, List.range_succ]) (fun j x hx => ?_) (fun i j b hij hj => ?_)
  · match j, hx with
    | 0, hx =>
      simp at hx; subst hx
      exact ⟨wr_own.2 ⟨u1, rfl, hk1, h1⟩, fun b hb => ⟨.inl hb, hS1 b hb⟩⟩
    | 1, hx =>
      simp at hx; subst hx
      exact ⟨wr_own.2 ⟨u2, rfl, hk2, h2⟩, fun b hb => ⟨.inr hb, hS2 b hb⟩⟩
    | j + 2, hx => simp at hx
  · have hj' : j = 1 := by simp at hj; omega
    have hi' : i = 0 := by omega
    subst hj' hi'
    simpa using hd b

end Go.Proofs.Ytmbkhohgciakfaa

/- Small numbers as texts: strconv.Itoa from 0 to 29, and names with a letter. -/
namespace Go.Proofs.Ytmbkhohgciakfaa
open Go.RowKit

/-- A number from 0 to 99, written. -/
def numS (n : Int) : ByteArray := if n < 10 then digS n else digS (n / 10) ++ digS (n % 10)

set_option maxRecDepth 100000 in
theorem small_any (w : World) (n : Int) (h0 : 0 ≤ n) (h9 : n ≤ 29) :
    Calls Try.prog 126 #[.int .i64 n] w fun e w' => e = .returned (.string (numS n)) ∧ w = w' := by
  by_cases h : n < 10
  · obtain ⟨k, rfl⟩ := Int.eq_ofNat_of_zero_le h0
    go_enter Try.func126, Try.ntmps126
    go_wp2
    go_ret
    have hk : k = 0 ∨ k = 1 ∨ k = 2 ∨ k = 3 ∨ k = 4 ∨ k = 5 ∨ k = 6 ∨ k = 7 ∨ k = 8 ∨ k = 9 := by omega
    refine ⟨?_, rfl⟩
    clear h0 h9
    rcases hk with rfl | rfl | rfl | rfl | rfl | rfl | rfl | rfl | rfl | rfl
    all_goals kernel_rfl
  · have h' : 10 ≤ n := by omega
    clear h
    obtain ⟨k, rfl⟩ := Int.eq_ofNat_of_zero_le h0
    go_enter Try.func126, Try.ntmps126
    go_wp2
    go_ret
    have hk : k = 10 ∨ k = 11 ∨ k = 12 ∨ k = 13 ∨ k = 14 ∨ k = 15 ∨ k = 16 ∨ k = 17 ∨ k = 18 ∨ k = 19 ∨ k = 20 ∨ k = 21 ∨ k = 22 ∨ k = 23 ∨ k = 24 ∨ k = 25 ∨ k = 26 ∨ k = 27 ∨ k = 28 ∨ k = 29 := by omega
    refine ⟨?_, rfl⟩
    clear h0 h9
    rcases hk with rfl | rfl | rfl | rfl | rfl | rfl | rfl | rfl | rfl | rfl | rfl | rfl | rfl | rfl | rfl | rfl | rfl | rfl | rfl | rfl
    all_goals kernel_rfl

theorem formatInt_any (w : World) (n : Int) (h0 : 0 ≤ n) (h9 : n ≤ 29) :
    Calls Try.prog 125 #[.int .i64 n, .int .i64 10] w fun e w' => e = .returned (.string (numS n)) ∧ w = w' := by
  have hl : n < 100 := by omega
  go_enter Try.func125, Try.ntmps125
  go_wp2_with (go_at_call 126; refine (small_any _ _ h0 h9).mono ?_; rintro e w' ⟨rfl, rfl⟩)
  go_ret
  exact ⟨rfl, rfl⟩
theorem itoa0_any (w : World) (n : Int) (h0 : 0 ≤ n) (h9 : n ≤ 29) :
    Calls Try.prog 124 #[.int .i64 n] w fun e w' => e = .returned (.string (numS n)) ∧ w = w' := by
  go_enter Try.func124, Try.ntmps124
  go_wp2_with (go_at_call 125; refine (formatInt_any _ _ h0 h9).mono ?_; rintro e w' ⟨rfl, rfl⟩)
  go_ret
  exact ⟨rfl, rfl⟩
theorem itoa_any (w : World) (n : Int) (h0 : 0 ≤ n) (h9 : n ≤ 29) :
    Calls Try.prog 123 #[.int .i64 n] w fun e w' => e = .returned (.string (numS n)) ∧ w = w' := by
  go_enter Try.func123, Try.ntmps123
  go_wp2_with (go_at_call 124; refine (itoa0_any _ _ h0 h9).mono ?_; rintro e w' ⟨rfl, rfl⟩)
  go_ret
  exact ⟨rfl, rfl⟩
/-- A name: a letter, and a number. -/
def keyN (c : UInt8) (n : Int) : ByteArray := ⟨#[c]⟩ ++ numS n
theorem numS_size (n : Int) : (numS n).size ≤ 2 := by
  unfold numS
  split
  · rw [digS_size]; omega
  · rw [append_size, digS_size, digS_size]; omega
theorem keyN_size (c : UInt8) (n : Int) : (keyN c n).size ≤ 3 := by
  unfold keyN
  rw [append_size]
  have h1 : (⟨#[c]⟩ : ByteArray).size = 1 := rfl
  have := numS_size n
  omega
theorem keyN_max (c : UInt8) (n : Int) : (keyN c n).size ≤ maxLen := by
  have := keyN_size c n
  unfold maxLen; omega
theorem numbered_any (w : World) (c : UInt8) (n : Int) (h0 : 0 ≤ n) (h9 : n ≤ 29) :
    Calls Try.prog 121 #[.string ⟨#[c]⟩, .int .i64 n] w fun e w' => e = .returned (.string (keyN c n)) ∧ w = w' := by
  have hs := numS_size n
  go_enter Try.func121, Try.ntmps121
  go_wp2_with (go_at_call 123; refine (itoa_any _ _ h0 h9).mono ?_; rintro e w' ⟨rfl, rfl⟩)
  go_ret
  exact ⟨rfl, rfl⟩

end Go.Proofs.Ytmbkhohgciakfaa

/- What SecSum answers, of the program and of the model: the same number of every number. -/
namespace Go.Proofs.Ytmbkhohgciakfaa
open Go.RowKit

/-- The sum of a secret; -1 of what is none. -/
def secS (n : Int) : Int := if 0 ≤ n ∧ n ≤ 99 then (7919 * n + 104) % 9973 else -1
theorem secS_yes {n : Int} (h : 0 ≤ n) (h' : n ≤ 99) : secS n = (7919 * n + 104) % 9973 := by unfold secS; rw [if_pos ⟨h, h'⟩]
theorem secS_no {n : Int} (h : n < 0 ∨ 99 < n) : secS n = -1 := by unfold secS; rw [if_neg (by omega)]

theorem within_any (n lo hi : Int) (w : World) :
    Calls Try.prog 58 #[.int .i64 n, .int .i64 lo, .int .i64 hi] w fun e w' => e = .returned (.bool (inB n lo hi)) ∧ w = w' := by
  by_cases h1 : lo ≤ n
  · by_cases h2 : n ≤ hi
    · go_enter Try.func58, Try.ntmps58
      go_wp2
      go_ret
      exact ⟨ret_bool (by unfold inB; simp [h1, h2]), rfl⟩
    · go_enter Try.func58, Try.ntmps58
      go_wp2
      go_ret
      exact ⟨ret_bool (by unfold inB; simp [h1, h2]), rfl⟩
  · go_enter Try.func58, Try.ntmps58
    go_wp2
    go_ret
    exact ⟨ret_bool (by rw [inB_no (by omega)]), rfl⟩

theorem implSecSum_any (n : Int) (w : World) :
    Calls Try.prog 141 #[.int .i64 n] w fun e w' => e = .returned (.int .i64 (secS n)) ∧ w = w' := by
  by_cases h : 0 ≤ n ∧ n ≤ 99
  · obtain ⟨h0, h1⟩ := h
    have hb := inB_yes h0 h1
    go_enter Try.func141, Try.ntmps141
    go_wp2_with (go_at_call 58; refine (within_any _ _ _ _).mono ?_; rintro e w' ⟨rfl, rfl⟩)
    go_ret
    exact ⟨ret_int (by rw [secS_yes h0 h1]), rfl⟩
  · have hn : n < 0 ∨ 99 < n := by omega
    have hb := inB_no hn
    clear h
    have HN := Lib.hid hn
    clear hn
    go_enter Try.func141, Try.ntmps141
    go_wp2_with (go_at_call 58; refine (within_any _ _ _ _).mono ?_; rintro e w' ⟨rfl, rfl⟩)
    go_ret
    exact ⟨ret_int (by rw [secS_no HN.out]), rfl⟩

theorem specSecSum_any (n : Int) (w : World) :
    Calls Try.prog 91 #[.int .i64 n] w fun e w' => e = .returned (.int .i64 (secS n)) ∧ w = w' := by
  by_cases h : 0 ≤ n ∧ n ≤ 99
  · obtain ⟨h0, h1⟩ := h
    have hb := inB_yes h0 h1
    go_enter Try.func91, Try.ntmps91
    go_wp2_with (go_at_call 45; refine (l1In_any _ _ _ _).mono ?_; rintro e w' ⟨rfl, rfl⟩)
    go_ret
    exact ⟨ret_int (by rw [secS_yes h0 h1]; omega), rfl⟩
  · have hn : n < 0 ∨ 99 < n := by omega
    have hb := inB_no hn
    clear h
    have HN := Lib.hid hn
    clear hn
    go_enter Try.func91, Try.ntmps91
    go_wp2_with (go_at_call 45; refine (l1In_any _ _ _ _).mono ?_; rintro e w' ⟨rfl, rfl⟩)
    go_ret
    exact ⟨ret_int (by rw [secS_no HN.out]), rfl⟩

end Go.Proofs.Ytmbkhohgciakfaa
