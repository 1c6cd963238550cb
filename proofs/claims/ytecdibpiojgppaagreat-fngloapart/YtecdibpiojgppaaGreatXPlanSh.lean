/- Texts that follow each other, merged: PlanSh, Itoa, SecSum, OpOkS, PlanP, PlanM. -/
import Derived.Test.YtecdibpiojgppaaGreatXExItems
import Derived.Test.YtecdibpiojgppaaGreatXHStr
import Derived.Test.YtecdibpiojgppaaGreatXPlain
import Derived.Deep.RegionHeld3
import Derived.Test.YtecdibpiojgppaaGreatXCmp
import Derived.Test.YtecdibpiojgppaaGreatXIntsOne

/- Plans: what they are, how they lie in memory. -/
namespace Go.Proofs.YtecdibpiojgppaaGreat
open Go.RowKit

/-- A plan: whether it may be, which names it holds, what it writes. -/
structure Plan where
  ok : Bool
  locks : List ByteArray
  writes : List Wr
def planSh : Sh Plan := (Sh.bool.pair (strsSh.pair wrsSh)).conv (fun x => (x.ok, x.locks, x.writes)) (fun p => ⟨p.1, p.2.1, p.2.2⟩) rfl
section
variable {w : World} {B : Nat} {S : Nat → Prop} {v : Value}
theorem plan_own {cs : List Value} {x : Plan} : planSh.own w S cs x ↔ ∃ u v S1 S2, cs = [.bool x.ok, u, v] ∧ strSh.Own 9 w S1 u x.locks ∧ wrSh.Own 77 w S2 v x.writes ∧ (∀ b, S1 b → S b) ∧ (∀ b, S2 b → S b) ∧ ∀ b, S1 b → S2 b → False := by
  constructor
  · rintro ⟨c1, c2, S1, S2, rfl, h1, ⟨c5, c6, S5, S6, rfl, ⟨u, rfl, h3⟩, ⟨v, rfl, h4⟩, s5, s6, d⟩, -, s2, -⟩
    have h1' : c1 = [.bool x.ok] := h1
    subst h1'
    exact ⟨u, v, S5, S6, rfl, h3, h4, fun b hb => s2 b (s5 b hb), fun b hb => s2 b (s6 b hb), d⟩
  · rintro ⟨u, v, S1, S2, rfl, h3, h4, s1, s2, d⟩
    exact ⟨_, _, fun _ => False, S, rfl, rfl, ⟨_, _, S1, S2, rfl, ⟨u, rfl, h3⟩, ⟨v, rfl, h4⟩, s1, s2, d⟩, fun _ h => h.elim, fun _ h => h, fun _ h _ => h⟩
end

/-- What a method that plans leaves: a plan of its own, and whether it is done there. -/
def Planned (pl : Plan) (here : Bool) (w : World) (e : Ending) (w' : World) : Prop :=
  ∃ u v, e = .returned (.tuple #[.agg #[.bool pl.ok, u, v], .bool here]) ∧ planSh.own w' (fun b => w.heap.size ≤ b ∧ b < w'.heap.size) [.bool pl.ok, u, v] pl ∧ Below w.heap.size w w'

section
variable {α : Type} {A : Sh α} {e : TypeId} {w : World}
/-- A literal of elements that own what they reach in blocks of S. -/
theorem Sh.Own.lit (A : Sh α) (e : TypeId) (w : World) (cells : Array Value) (xs : List α) (C : Nat → List Value) (F : Nat → Nat → Prop) (S : Nat → Prop) (hl : xs.length ≤ maxLen) (hC : cells.toList = flat C xs.length)
    (ho : ∀ j x, xs[j]? = some x → A.own w (F j) (C j) x ∧ ∀ b, F j b → S b ∧ b < w.heap.size) (hd : ∀ i j b, i < j → j < xs.length → F i b → ¬ F j b) :
    A.Own e (w.alloc (.cells cells e)) (fun b => S b ∨ b = w.heap.size) (.slice (some ⟨w.heap.size, 0, none⟩) xs.length xs.length) xs := by
  have hlen : cells.size = xs.length * A.wd := by
    have : cells.toList.length = xs.length * A.wd := by rw [hC]; exact flat_len fun j hj => A.olen (ho j _ (List.getElem?_eq_getElem hj)).1
    simpa using this
  refine ⟨C, F, ?_, fun g hg => .inr (Option.some.inj hg).symm, fun j x hx => ⟨A.okeep (ho j x hx).1 fun b _ hlt => (belowOne w (.cells cells e)).block b hlt, fun b hb => ⟨.inl ((ho j x hx).2 b hb).1, fun e1 => ?_⟩⟩, hd⟩
  · have h := World.ownsRow_lit (base := 0) (e := e) (size := A.wd) w cells xs.length (Nat.zero_le _) hl hlen
    rw [hC] at h; exact h
  · have h1 : w.heap.size = b := Option.some.inj e1
    have h2 := ((ho j x hx).2 b hb).2
    omega
end
theorem strs_lit (w : World) (xs : List ByteArray) (cells : Array Value) (hc : cells.toList = xs.map Value.string) (hx : ∀ x ∈ xs, x.size ≤ maxLen) (hl : xs.length ≤ maxLen) :
    strSh.Own 9 (w.alloc (.cells cells 9)) (fun b => b = w.heap.size) (.slice (some ⟨w.heap.size, 0, none⟩) xs.length xs.length) xs := by
  have h := Sh.Own.lit strSh 9 w cells xs (fun j => [.string (xs[j]?.getD ByteArray.empty)]) (fun _ _ => False) (fun _ => False) hl (by
    rw [hc]
    refine flat_ext (d := 1) (fun _ _ => rfl) (by simp) fun j i hj hi => ?_
    have hi0 : i = 0 := by omega
    subst hi0
    simp [hj]) (fun j x hx' => ⟨⟨by rw [hx']; rfl, hx x (List.mem_of_getElem? hx')⟩, fun _ h => h.elim⟩) (fun _ _ _ _ _ h => h.elim)
  exact h.mono fun b hb => hb.elim False.elim id
theorem ints_lit (w : World) (xs : List Int) (cells : Array Value) (hc : cells.toList = xs.map (Value.int .i64)) (hl : xs.length ≤ maxLen) :
    Sh.int.Own 3 (w.alloc (.cells cells 3)) (fun b => b = w.heap.size) (.slice (some ⟨w.heap.size, 0, none⟩) xs.length xs.length) xs := by
  have h := Sh.Own.lit Sh.int 3 w cells xs (fun j => [.int .i64 (xs[j]?.getD 0)]) (fun _ _ => False) (fun _ => False) hl (by
    rw [hc]
    refine flat_ext (d := 1) (fun _ _ => rfl) (by simp) fun j i hj hi => ?_
    have hi0 : i = 0 := by omega
    subst hi0
    simp [hj]) (fun j x hx' => ⟨by rw [hx']; rfl, fun _ h => h.elim⟩) (fun _ _ _ _ _ h => h.elim)
  exact h.mono fun b hb => hb.elim False.elim id
/-- One write, made of numbers that are owned. -/
theorem wrs_lit1 (w : World) (S : Nat → Prop) (key : ByteArray) (del : Bool) (u : Value) (xs : List Int) (hk : key.size ≤ maxLen) (hu : Sh.int.Own 3 w S u xs) (hS : ∀ b, S b → b < w.heap.size) :
    wrSh.Own 77 (w.alloc (.cells #[.string key, .bool del, u] 77)) (fun b => S b ∨ b = w.heap.size) (.slice (some ⟨w.heap.size, 0, none⟩) 1 1) [⟨key, del, xs⟩] := by
  refine Sh.Own.lit wrSh 77 w #[.string key, .bool del, u] [⟨key, del, xs⟩] (fun _ => [.string key, .bool del, u]) (fun _ => S) S (by unfold maxLen; simp) (by simp [flat]) (fun j x hx => ?_) (fun i j b hij hj => by simp at hj; omega)
  have : x = ⟨key, del, xs⟩ := by
    have := List.mem_of_getElem? hx
    simpa using this
  subst this
  exact ⟨wr_own.2 ⟨u, rfl, hk, hu⟩, fun b hb => ⟨hb, hS b hb⟩⟩
/-- Two writes. -/
theorem wrs_lit2 (w : World) (S1 S2 : Nat → Prop) (k1 k2 : ByteArray) (d1 d2 : Bool) (u1 u2 : Value) (xs ys : List Int) (hk1 : k1.size ≤ maxLen) (hk2 : k2.size ≤ maxLen) (h1 : Sh.int.Own 3 w S1 u1 xs) (h2 : Sh.int.Own 3 w S2 u2 ys) (hS1 : ∀ b, S1 b → b < w.heap.size) (hS2 : ∀ b, S2 b → b < w.heap.size) (hd : ∀ b, S1 b → ¬ S2 b) :
    wrSh.Own 77 (w.alloc (.cells #[.string k1, .bool d1, u1, .string k2, .bool d2, u2] 77)) (fun b => (S1 b ∨ S2 b) ∨ b = w.heap.size) (.slice (some ⟨w.heap.size, 0, none⟩) 2 2) [⟨k1, d1, xs⟩, ⟨k2, d2, ys⟩] := by
  refine Sh.Own.lit wrSh 77 w #[.string k1, .bool d1, u1, .string k2, .bool d2, u2] [⟨k1, d1, xs⟩, ⟨k2, d2, ys⟩] (fun j => if j = 0 then [.string k1, .bool d1, u1] else [.string k2, .bool d2, u2]) (fun j => if j = 0 then S1 else S2) (fun b => S1 b ∨ S2 b) (by unfold maxLen; simp) (by simp [flat, List.range_succ]) (fun j x hx => ?_) (fun i j b hij hj => ?_)
  · match j, hx with
    | 0, hx =>
      simp at hx; subst hx
      exact ⟨wr_own.2 ⟨u1, rfl, hk1, h1⟩, fun b hb => ⟨.inl hb, hS1 b hb⟩⟩
    | 1, hx =>
      simp at hx; subst hx
      exact ⟨wr_own.2 ⟨u2, rfl, hk2, h2⟩, fun b hb => ⟨.inr hb, hS2 b hb⟩⟩
    | j + 2, hx => simp at hx
  · have hj' : j = 1 := by simp at hj; omega
    have hi' : i = 0 := by omega
    subst hj' hi'
    simpa using hd b

end Go.Proofs.YtecdibpiojgppaaGreat

/- Small numbers as texts: strconv.Itoa from 0 to 29, and names with a letter. -/
namespace Go.Proofs.YtecdibpiojgppaaGreat
open Go.RowKit

/-- A number from 0 to 99, written. -/
def numS (n : Int) : ByteArray := if n < 10 then digS n else digS (n / 10) ++ digS (n % 10)

set_option maxRecDepth 100000 in
theorem small_any (w : World) (n : Int) (h0 : 0 ≤ n) (h9 : n ≤ 29) :
    Calls Tryz.prog 149 #[.int .i64 n] w fun e w' => e = .returned (.string (numS n)) ∧ w = w' := by
  by_cases h : n < 10
  · obtain ⟨k, rfl⟩ := Int.eq_ofNat_of_zero_le h0
    go_enter Tryz.func149, Tryz.ntmps149
    go_wp2
    go_ret
    have hk : k = 0 ∨ k = 1 ∨ k = 2 ∨ k = 3 ∨ k = 4 ∨ k = 5 ∨ k = 6 ∨ k = 7 ∨ k = 8 ∨ k = 9 := by omega
    refine ⟨?_, rfl⟩
    clear h0 h9
    rcases hk with rfl | rfl | rfl | rfl | rfl | rfl | rfl | rfl | rfl | rfl
    all_goals kernel_rfl
  · have h' : 10 ≤ n := by omega
    clear h
    obtain ⟨k, rfl⟩ := Int.eq_ofNat_of_zero_le h0
    go_enter Tryz.func149, Tryz.ntmps149
    go_wp2
    go_ret
    have hk : k = 10 ∨ k = 11 ∨ k = 12 ∨ k = 13 ∨ k = 14 ∨ k = 15 ∨ k = 16 ∨ k = 17 ∨ k = 18 ∨ k = 19 ∨ k = 20 ∨ k = 21 ∨ k = 22 ∨ k = 23 ∨ k = 24 ∨ k = 25 ∨ k = 26 ∨ k = 27 ∨ k = 28 ∨ k = 29 := by omega
    refine ⟨?_, rfl⟩
    clear h0 h9
    rcases hk with rfl | rfl | rfl | rfl | rfl | rfl | rfl | rfl | rfl | rfl | rfl | rfl | rfl | rfl | rfl | rfl | rfl | rfl | rfl | rfl
    all_goals kernel_rfl

theorem formatInt_any (w : World) (n : Int) (h0 : 0 ≤ n) (h9 : n ≤ 29) :
    Calls Tryz.prog 148 #[.int .i64 n, .int .i64 10] w fun e w' => e = .returned (.string (numS n)) ∧ w = w' := by
  have hl : n < 100 := by omega
  go_enter Tryz.func148, Tryz.ntmps148
  go_wp2_with (go_at_call 149; refine (small_any _ _ h0 h9).mono ?_; rintro e w' ⟨rfl, rfl⟩)
  go_ret
  exact ⟨rfl, rfl⟩
theorem itoa0_any (w : World) (n : Int) (h0 : 0 ≤ n) (h9 : n ≤ 29) :
    Calls Tryz.prog 147 #[.int .i64 n] w fun e w' => e = .returned (.string (numS n)) ∧ w = w' := by
  go_enter Tryz.func147, Tryz.ntmps147
  go_wp2_with (go_at_call 148; refine (formatInt_any _ _ h0 h9).mono ?_; rintro e w' ⟨rfl, rfl⟩)
  go_ret
  exact ⟨rfl, rfl⟩
theorem itoa_any (w : World) (n : Int) (h0 : 0 ≤ n) (h9 : n ≤ 29) :
    Calls Tryz.prog 146 #[.int .i64 n] w fun e w' => e = .returned (.string (numS n)) ∧ w = w' := by
  go_enter Tryz.func146, Tryz.ntmps146
  go_wp2_with (go_at_call 147; refine (itoa0_any _ _ h0 h9).mono ?_; rintro e w' ⟨rfl, rfl⟩)
  go_ret
  exact ⟨rfl, rfl⟩
/-- A name: a letter, and a number. -/
def keyN (c : UInt8) (n : Int) : ByteArray := ⟨#[c]⟩ ++ numS n
theorem numS_size (n : Int) : (numS n).size ≤ 2 := by
  unfold numS
  split
  · rw [digS_size]; omega
  · rw [append_size, digS_size, digS_size]; omega
theorem keyN_size (c : UInt8) (n : Int) : (keyN c n).size ≤ 3 := by
  unfold keyN
  rw [append_size]
  have h1 : (⟨#[c]⟩ : ByteArray).size = 1 := rfl
  have := numS_size n
  omega
theorem keyN_max (c : UInt8) (n : Int) : (keyN c n).size ≤ maxLen := by
  have := keyN_size c n
  unfold maxLen; omega
theorem numbered_any (w : World) (c : UInt8) (n : Int) (h0 : 0 ≤ n) (h9 : n ≤ 29) :
    Calls Tryz.prog 143 #[.string ⟨#[c]⟩, .int .i64 n] w fun e w' => e = .returned (.string (keyN c n)) ∧ w = w' := by
  have hs := numS_size n
  go_enter Tryz.func143, Tryz.ntmps143
  go_wp2_with (go_at_call 146; refine (itoa_any _ _ h0 h9).mono ?_; rintro e w' ⟨rfl, rfl⟩)
  go_ret
  exact ⟨rfl, rfl⟩

end Go.Proofs.YtecdibpiojgppaaGreat

/- What SecSum answers, of the program and of the model: the same number of every number. -/
namespace Go.Proofs.YtecdibpiojgppaaGreat
open Go.RowKit

/-- The sum of a secret; -1 of what is none. -/
def secS (n : Int) : Int := if 0 ≤ n ∧ n ≤ 99 then (7919 * n + 104) % 9973 else -1
theorem secS_yes {n : Int} (h : 0 ≤ n) (h' : n ≤ 99) : secS n = (7919 * n + 104) % 9973 := by unfold secS; rw [if_pos ⟨h, h'⟩]
theorem secS_no {n : Int} (h : n < 0 ∨ 99 < n) : secS n = -1 := by unfold secS; rw [if_neg (by omega)]

theorem within_any (n lo hi : Int) (w : World) :
    Calls Tryz.prog 76 #[.int .i64 n, .int .i64 lo, .int .i64 hi] w fun e w' => e = .returned (.bool (inB n lo hi)) ∧ w = w' := by
  by_cases h1 : lo ≤ n
  · by_cases h2 : n ≤ hi
    · go_enter Tryz.func76, Tryz.ntmps76
      go_wp2
      go_ret
      exact ⟨ret_bool (by unfold inB; simp [h1, h2]), rfl⟩
    · go_enter Tryz.func76, Tryz.ntmps76
      go_wp2
      go_ret
      exact ⟨ret_bool (by unfold inB; simp [h1, h2]), rfl⟩
  · go_enter Tryz.func76, Tryz.ntmps76
    go_wp2
    go_ret
    exact ⟨ret_bool (by rw [inB_no (by omega)]), rfl⟩

theorem implSecSum_any (n : Int) (w : World) :
    Calls Tryz.prog 164 #[.int .i64 n] w fun e w' => e = .returned (.int .i64 (secS n)) ∧ w = w' := by
  by_cases h : 0 ≤ n ∧ n ≤ 99
  · obtain ⟨h0, h1⟩ := h
    have hb := inB_yes h0 h1
    go_enter Tryz.func164, Tryz.ntmps164
    go_wp2_with (go_at_call 76; refine (within_any _ _ _ _).mono ?_; rintro e w' ⟨rfl, rfl⟩)
    go_ret
    exact ⟨ret_int (by rw [secS_yes h0 h1]), rfl⟩
  · have hn : n < 0 ∨ 99 < n := by omega
    have hb := inB_no hn
    clear h
    have HN := Lib.hid hn
    clear hn
    go_enter Tryz.func164, Tryz.ntmps164
    go_wp2_with (go_at_call 76; refine (within_any _ _ _ _).mono ?_; rintro e w' ⟨rfl, rfl⟩)
    go_ret
    exact ⟨ret_int (by rw [secS_no HN.out]), rfl⟩

theorem specSecSum_any (n : Int) (w : World) :
    Calls Tryz.prog 108 #[.int .i64 n] w fun e w' => e = .returned (.int .i64 (secS n)) ∧ w = w' := by
  by_cases h : 0 ≤ n ∧ n ≤ 99
  · obtain ⟨h0, h1⟩ := h
    have hb := inB_yes h0 h1
    go_enter Tryz.func108, Tryz.ntmps108
    go_wp2_with (go_at_call 41; refine (l1In_any _ _ _ _).mono ?_; rintro e w' ⟨rfl, rfl⟩)
    go_ret
    exact ⟨ret_int (by rw [secS_yes h0 h1]; omega), rfl⟩
  · have hn : n < 0 ∨ 99 < n := by omega
    have hb := inB_no hn
    clear h
    have HN := Lib.hid hn
    clear hn
    go_enter Tryz.func108, Tryz.ntmps108
    go_wp2_with (go_at_call 41; refine (l1In_any _ _ _ _).mono ?_; rintro e w' ⟨rfl, rfl⟩)
    go_ret
    exact ⟨ret_int (by rw [secS_no HN.out]), rfl⟩

end Go.Proofs.YtecdibpiojgppaaGreat

/- What OpOk answers, of the program and of the model: the same bool of everything that is done. By opgen.py. -/
namespace Go.Proofs.YtecdibpiojgppaaGreat
open Go.RowKit

/-- What is done: its kind and its numbers. -/
structure Op where
  kind : Int
  who : Int
  inn : Int
  code : Int
  sec : Int
  fam : Int
  gen : Int
deriving DecidableEq
/-- The numbers that its kind has not are noughts. -/
def opK (o : Op) : Bool :=
  if (o.kind == 1 || o.kind == 5) = true then (o.code == 0 && (o.sec == 0 && (o.fam == 0 && o.gen == 0)))
  else if (o.kind == 2) = true then (o.fam == 0 && o.gen == 0)
  else if (o.kind == 3) = true then (o.who == 0 && (o.inn == 0 && o.gen == 0))
  else if (o.kind == 4) = true then (o.who == 0 && (o.inn == 0 && (o.code == 0 && o.sec == 0)))
  else false
def opB (o : Op) : Bool :=
  inB o.who 0 9 && (inB o.inn 0 9 && (inB o.code 0 9 && (inB o.sec 0 99 && (inB o.fam 0 9 && (inB o.gen 0 99 && opK o)))))
abbrev opV (o : Op) : Value := .agg #[.int .i64 o.kind, .int .i64 o.who, .int .i64 o.inn, .int .i64 o.code, .int .i64 o.sec, .int .i64 o.fam, .int .i64 o.gen]

set_option maxRecDepth 100000 in
set_option maxHeartbeats 2000000 in
theorem specOpOk_any (w : World) (o : Op) :
    Calls Tryz.prog 19 #[.agg #[.int .i64 o.kind, .int .i64 o.who, .int .i64 o.inn, .int .i64 o.code, .int .i64 o.sec, .int .i64 o.fam, .int .i64 o.gen]] w fun e w' => e = .returned (.bool (opB o)) ∧ Below w.heap.size w w' := by
  rcases h_who : inB o.who 0 9
  · go_enter Tryz.func19, Tryz.ntmps19
    go_wp2_with (go_at_call 41; refine (l1In_any _ _ _ _).mono ?_; rintro e w' ⟨rfl, rfl⟩)
    go_ret
    exact ⟨ret_bool (by simp only [opB, opK, *] <;> rfl), belowOne _ _⟩
  rcases h_inn : inB o.inn 0 9
  · go_enter Tryz.func19, Tryz.ntmps19
    go_wp2_with (go_at_call 41; refine (l1In_any _ _ _ _).mono ?_; rintro e w' ⟨rfl, rfl⟩)
    go_ret
    exact ⟨ret_bool (by simp only [opB, opK, *] <;> rfl), belowOne _ _⟩
  rcases h_code : inB o.code 0 9
  · go_enter Tryz.func19, Tryz.ntmps19
    go_wp2_with (go_at_call 41; refine (l1In_any _ _ _ _).mono ?_; rintro e w' ⟨rfl, rfl⟩)
    go_ret
    exact ⟨ret_bool (by simp only [opB, opK, *] <;> rfl), belowOne _ _⟩
  rcases h_sec : inB o.sec 0 99
  · go_enter Tryz.func19, Tryz.ntmps19
    go_wp2_with (go_at_call 41; refine (l1In_any _ _ _ _).mono ?_; rintro e w' ⟨rfl, rfl⟩)
    go_ret
    exact ⟨ret_bool (by simp only [opB, opK, *] <;> rfl), belowOne _ _⟩
  rcases h_fam : inB o.fam 0 9
  · go_enter Tryz.func19, Tryz.ntmps19
    go_wp2_with (go_at_call 41; refine (l1In_any _ _ _ _).mono ?_; rintro e w' ⟨rfl, rfl⟩)
    go_ret
    exact ⟨ret_bool (by simp only [opB, opK, *] <;> rfl), belowOne _ _⟩
  rcases h_gen : inB o.gen 0 99
  · go_enter Tryz.func19, Tryz.ntmps19
    go_wp2_with (go_at_call 41; refine (l1In_any _ _ _ _).mono ?_; rintro e w' ⟨rfl, rfl⟩)
    go_ret
    exact ⟨ret_bool (by simp only [opB, opK, *] <;> rfl), belowOne _ _⟩
  rcases k1 : (o.kind == 1)
  rotate_left
  ·
    rcases z_code : (o.code == 0)
    · go_enter Tryz.func19, Tryz.ntmps19
      go_wp2_with (go_at_call 41; refine (l1In_any _ _ _ _).mono ?_; rintro e w' ⟨rfl, rfl⟩)
      go_ret
      exact ⟨ret_bool (by simp only [opB, opK, *] <;> rfl), belowOne _ _⟩
    rcases z_sec : (o.sec == 0)
    · go_enter Tryz.func19, Tryz.ntmps19
      go_wp2_with (go_at_call 41; refine (l1In_any _ _ _ _).mono ?_; rintro e w' ⟨rfl, rfl⟩)
      go_ret
      exact ⟨ret_bool (by simp only [opB, opK, *] <;> rfl), belowOne _ _⟩
    rcases z_fam : (o.fam == 0)
    · go_enter Tryz.func19, Tryz.ntmps19
      go_wp2_with (go_at_call 41; refine (l1In_any _ _ _ _).mono ?_; rintro e w' ⟨rfl, rfl⟩)
      go_ret
      exact ⟨ret_bool (by simp only [opB, opK, *] <;> rfl), belowOne _ _⟩
    rcases z_gen : (o.gen == 0)
    · go_enter Tryz.func19, Tryz.ntmps19
      go_wp2_with (go_at_call 41; refine (l1In_any _ _ _ _).mono ?_; rintro e w' ⟨rfl, rfl⟩)
      go_ret
      exact ⟨ret_bool (by simp only [opB, opK, *] <;> rfl), belowOne _ _⟩
    go_enter Tryz.func19, Tryz.ntmps19
    go_wp2_with (go_at_call 41; refine (l1In_any _ _ _ _).mono ?_; rintro e w' ⟨rfl, rfl⟩)
    go_ret
    exact ⟨ret_bool (by simp only [opB, opK, *] <;> rfl), belowOne _ _⟩
  rcases k5 : (o.kind == 5)
  rotate_left
  ·
    rcases z_code : (o.code == 0)
    · go_enter Tryz.func19, Tryz.ntmps19
      go_wp2_with (go_at_call 41; refine (l1In_any _ _ _ _).mono ?_; rintro e w' ⟨rfl, rfl⟩)
      go_ret
      exact ⟨ret_bool (by simp only [opB, opK, *] <;> rfl), belowOne _ _⟩
    rcases z_sec : (o.sec == 0)
    · go_enter Tryz.func19, Tryz.ntmps19
      go_wp2_with (go_at_call 41; refine (l1In_any _ _ _ _).mono ?_; rintro e w' ⟨rfl, rfl⟩)
      go_ret
      exact ⟨ret_bool (by simp only [opB, opK, *] <;> rfl), belowOne _ _⟩
    rcases z_fam : (o.fam == 0)
    · go_enter Tryz.func19, Tryz.ntmps19
      go_wp2_with (go_at_call 41; refine (l1In_any _ _ _ _).mono ?_; rintro e w' ⟨rfl, rfl⟩)
      go_ret
      exact ⟨ret_bool (by simp only [opB, opK, *] <;> rfl), belowOne _ _⟩
    rcases z_gen : (o.gen == 0)
    · go_enter Tryz.func19, Tryz.ntmps19
      go_wp2_with (go_at_call 41; refine (l1In_any _ _ _ _).mono ?_; rintro e w' ⟨rfl, rfl⟩)
      go_ret
      exact ⟨ret_bool (by simp only [opB, opK, *] <;> rfl), belowOne _ _⟩
    go_enter Tryz.func19, Tryz.ntmps19
    go_wp2_with (go_at_call 41; refine (l1In_any _ _ _ _).mono ?_; rintro e w' ⟨rfl, rfl⟩)
    go_ret
    exact ⟨ret_bool (by simp only [opB, opK, *] <;> rfl), belowOne _ _⟩
  rcases k2 : (o.kind == 2)
  rotate_left
  ·
    rcases z_fam : (o.fam == 0)
    · go_enter Tryz.func19, Tryz.ntmps19
      go_wp2_with (go_at_call 41; refine (l1In_any _ _ _ _).mono ?_; rintro e w' ⟨rfl, rfl⟩)
      go_ret
      exact ⟨ret_bool (by simp only [opB, opK, *] <;> rfl), belowOne _ _⟩
    rcases z_gen : (o.gen == 0)
    · go_enter Tryz.func19, Tryz.ntmps19
      go_wp2_with (go_at_call 41; refine (l1In_any _ _ _ _).mono ?_; rintro e w' ⟨rfl, rfl⟩)
      go_ret
      exact ⟨ret_bool (by simp only [opB, opK, *] <;> rfl), belowOne _ _⟩
    go_enter Tryz.func19, Tryz.ntmps19
    go_wp2_with (go_at_call 41; refine (l1In_any _ _ _ _).mono ?_; rintro e w' ⟨rfl, rfl⟩)
    go_ret
    exact ⟨ret_bool (by simp only [opB, opK, *] <;> rfl), belowOne _ _⟩
  rcases k3 : (o.kind == 3)
  rotate_left
  ·
    rcases z_who : (o.who == 0)
    · go_enter Tryz.func19, Tryz.ntmps19
      go_wp2_with (go_at_call 41; refine (l1In_any _ _ _ _).mono ?_; rintro e w' ⟨rfl, rfl⟩)
      go_ret
      exact ⟨ret_bool (by simp only [opB, opK, *] <;> rfl), belowOne _ _⟩
    rcases z_inn : (o.inn == 0)
    · go_enter Tryz.func19, Tryz.ntmps19
      go_wp2_with (go_at_call 41; refine (l1In_any _ _ _ _).mono ?_; rintro e w' ⟨rfl, rfl⟩)
      go_ret
      exact ⟨ret_bool (by simp only [opB, opK, *] <;> rfl), belowOne _ _⟩
    rcases z_gen : (o.gen == 0)
    · go_enter Tryz.func19, Tryz.ntmps19
      go_wp2_with (go_at_call 41; refine (l1In_any _ _ _ _).mono ?_; rintro e w' ⟨rfl, rfl⟩)
      go_ret
      exact ⟨ret_bool (by simp only [opB, opK, *] <;> rfl), belowOne _ _⟩
    go_enter Tryz.func19, Tryz.ntmps19
    go_wp2_with (go_at_call 41; refine (l1In_any _ _ _ _).mono ?_; rintro e w' ⟨rfl, rfl⟩)
    go_ret
    exact ⟨ret_bool (by simp only [opB, opK, *] <;> rfl), belowOne _ _⟩
  rcases k4 : (o.kind == 4)
  rotate_left
  ·
    rcases z_who : (o.who == 0)
    · go_enter Tryz.func19, Tryz.ntmps19
      go_wp2_with (go_at_call 41; refine (l1In_any _ _ _ _).mono ?_; rintro e w' ⟨rfl, rfl⟩)
      go_ret
      exact ⟨ret_bool (by simp only [opB, opK, *] <;> rfl), belowOne _ _⟩
    rcases z_inn : (o.inn == 0)
    · go_enter Tryz.func19, Tryz.ntmps19
      go_wp2_with (go_at_call 41; refine (l1In_any _ _ _ _).mono ?_; rintro e w' ⟨rfl, rfl⟩)
      go_ret
      exact ⟨ret_bool (by simp only [opB, opK, *] <;> rfl), belowOne _ _⟩
    rcases z_code : (o.code == 0)
    · go_enter Tryz.func19, Tryz.ntmps19
      go_wp2_with (go_at_call 41; refine (l1In_any _ _ _ _).mono ?_; rintro e w' ⟨rfl, rfl⟩)
      go_ret
      exact ⟨ret_bool (by simp only [opB, opK, *] <;> rfl), belowOne _ _⟩
    rcases z_sec : (o.sec == 0)
    · go_enter Tryz.func19, Tryz.ntmps19
      go_wp2_with (go_at_call 41; refine (l1In_any _ _ _ _).mono ?_; rintro e w' ⟨rfl, rfl⟩)
      go_ret
      exact ⟨ret_bool (by simp only [opB, opK, *] <;> rfl), belowOne _ _⟩
    go_enter Tryz.func19, Tryz.ntmps19
    go_wp2_with (go_at_call 41; refine (l1In_any _ _ _ _).mono ?_; rintro e w' ⟨rfl, rfl⟩)
    go_ret
    exact ⟨ret_bool (by simp only [opB, opK, *] <;> rfl), belowOne _ _⟩
  go_enter Tryz.func19, Tryz.ntmps19
  go_wp2_with (go_at_call 41; refine (l1In_any _ _ _ _).mono ?_; rintro e w' ⟨rfl, rfl⟩)
  go_ret
  exact ⟨ret_bool (by simp only [opB, opK, *] <;> rfl), belowOne _ _⟩

end Go.Proofs.YtecdibpiojgppaaGreat

/- What is planned: plain functions. -/
namespace Go.Proofs.YtecdibpiojgppaaGreat
open Go.RowKit

/-- What may not be. -/
def noP (l : List ByteArray) : Plan := ⟨false, l, []⟩
/-- The plan of the place that keeps what was done. -/
def doneP (its : List Item) (tx : Int) (o : Op) : Plan :=
  if lookOk its (keyN 97 tx) = true then noP [keyN 97 tx] else ⟨true, [keyN 97 tx], [⟨keyN 97 tx, false, [o.kind]⟩]⟩
/-- Whether one is in by a number. -/
def mineB (its : List Item) (o : Op) : Bool := lookOk its (keyN 115 o.inn) && (nth (lookV its (keyN 115 o.inn)) 0 == o.who)
/-- The plans of the place that keeps who is in. -/
def inP1 (its : List Item) (o : Op) : Plan :=
  if lookOk its (keyN 115 o.inn) = true then noP [keyN 115 o.inn] else ⟨true, [keyN 115 o.inn], [⟨keyN 115 o.inn, false, [o.who]⟩]⟩
def inP2 (its : List Item) (o : Op) : Plan := ⟨mineB its o, [keyN 115 o.inn], []⟩
def inP5 (its : List Item) (o : Op) : Plan :=
  if mineB its o = true then ⟨true, [keyN 115 o.inn], [⟨keyN 115 o.inn, true, []⟩]⟩ else noP [keyN 115 o.inn]
/-- The plans of the place that keeps who may what. -/
def mayP2 (its : List Item) (o : Op) : Plan :=
  if lookOk its (keyN 99 o.code) = true then noP [keyN 99 o.code] else ⟨true, [keyN 99 o.code], [⟨keyN 99 o.code, false, [o.who, secS o.sec]⟩]⟩
def tradeB (its : List Item) (o : Op) : Bool :=
  lookOk its (keyN 99 o.code) && (!lookOk its (keyN 102 o.fam) && (nth (lookV its (keyN 99 o.code)) 1 == secS o.sec))
def mayP3 (its : List Item) (o : Op) : Plan :=
  if tradeB its o = true then
    ⟨true, [keyN 99 o.code, keyN 102 o.fam, keyN 117 (nth (lookV its (keyN 99 o.code)) 0)], [⟨keyN 99 o.code, true, []⟩, ⟨keyN 102 o.fam, false, [nth (lookV its (keyN 99 o.code)) 0, 1, 1]⟩]⟩
  else noP [keyN 99 o.code, keyN 102 o.fam]
/-- A key that is of use: the family lives, is not at its end, and had that key made. -/
def useB (gen alive g : Int) : Bool := !(alive == 0) && (!(gen == 99) && (!(g == 0) && decide (g ≤ gen)))
def nextV (v : List Int) (g : Int) : List Int := if g < nth v 1 then [nth v 0, nth v 1, 0] else [nth v 0, nth v 1 + 1, 1]
def nextB (its : List Item) (o : Op) : Bool :=
  lookOk its (keyN 102 o.fam) && useB (nth (lookV its (keyN 102 o.fam)) 1) (nth (lookV its (keyN 102 o.fam)) 2) o.gen
def mayP4 (its : List Item) (o : Op) : Plan :=
  if nextB its o = true then
    ⟨true, [keyN 102 o.fam, keyN 117 (nth (lookV its (keyN 102 o.fam)) 0)], [⟨keyN 102 o.fam, false, nextV (lookV its (keyN 102 o.fam)) o.gen⟩]⟩
  else noP [keyN 102 o.fam]
/-- A family of one that is of use. -/
def famB (who : Int) (it : Item) : Bool := decide (it.key.data[0]? = some 102) && (nth it.val 0 == who && nth it.val 2 == 1)
def mayP5 (its : List Item) (o : Op) : Plan :=
  ⟨true, keyN 117 o.who :: (its.filter (famB o.who)).map (·.key), (its.filter (famB o.who)).map fun it => ⟨it.key, false, [nth it.val 0, nth it.val 1, 0]⟩⟩

end Go.Proofs.YtecdibpiojgppaaGreat

/- The methods that plan: words for their memory; done. -/
namespace Go.Proofs.YtecdibpiojgppaaGreat
open Go.RowKit

/-- Three cells of a block written. -/
abbrev put3 (w : World) (b : Nat) (x y z : Value) : World := ((w.setCell ⟨b, 0, none⟩ x).setCell ⟨b, 1, none⟩ y).setCell ⟨b, 2, none⟩ z
theorem put3_size (w : World) (b : Nat) (x y z : Value) : (put3 w b x y z).heap.size = w.heap.size := by simp [World.setCell]
theorem put3_far (w : World) (b : Nat) (x y z : Value) {c : Nat} (h : c ≠ b) : (put3 w b x y z).heap[c]? = w.heap[c]? :=
  ((Below.heap_setCell _ ⟨b, 2, none⟩ z c h).trans (Below.heap_setCell _ ⟨b, 1, none⟩ y c h)).trans (Below.heap_setCell w ⟨b, 0, none⟩ x c h)
theorem Held.put3 {w : World} {b : Nat} {x y z : Value} (h : Held w b [x, y, z]) (x' y' z' : Value) : Held (put3 w b x' y' z') b [x', y', z'] := ((h.set_ (i := 0) x').set_ (i := 1) y').set_ (i := 2) z'
theorem belowPut3 {B : Nat} {w a : World} (h : Below B w a) (b : Nat) (hb : B ≤ b) (x y z : Value) : Below B w (put3 a b x y z) :=
  ((h.setCell (p := ⟨b, 0, none⟩) hb x).setCell (p := ⟨b, 1, none⟩) hb y).setCell (p := ⟨b, 2, none⟩) hb z

/-- What lies in memory while a method plans: the operation, the store, the plan. -/
structure Pl3 (w0 : World) (o : Op) (v x y z : Value) (W : World) : Prop where
  op : Held W w0.heap.size [.int .i64 o.kind, .int .i64 o.who, .int .i64 o.inn, .int .i64 o.code, .int .i64 o.sec, .int .i64 o.fam, .int .i64 o.gen]
  sto : Held W (w0.heap.size + 1) [v]
  pl : Held W (w0.heap.size + 1 + 1) [x, y, z]
  bel : Below w0.heap.size w0 W
section
variable {w0 W W' : World} {o : Op} {v x y z : Value}
theorem Pl3.call (h : Pl3 w0 o v x y z W) (hb : Below W.heap.size W W') : Pl3 w0 o v x y z W' := ⟨h.op.below hb h.op.1, h.sto.below hb h.sto.1, h.pl.below hb h.pl.1, belowNext h.bel hb⟩
theorem Pl3.drewOne (h : Pl3 w0 o v x y z W) : Pl3 w0 o v x y z W.drew := ⟨h.op, h.sto, h.pl, h.bel.drew⟩
theorem Pl3.drewN (h : Pl3 w0 o v x y z W) (n : Nat) : Pl3 w0 o v x y z (W.drewN n) := ⟨h.op, h.sto, h.pl, belowDraws h.bel n⟩
theorem Pl3.size (h : Pl3 w0 o v x y z W) : w0.heap.size < W.heap.size ∧ w0.heap.size + 1 < W.heap.size ∧ w0.heap.size + 1 + 1 < W.heap.size := ⟨h.op.1, h.sto.1, h.pl.1⟩
theorem Pl3.start (w : World) (o : Op) (v : Value) (t1 t2 t3 : TypeId) : Pl3 w o v (.bool false) (.slice none 0 0) (.slice none 0 0)
    (((w.alloc (.cells #[.int .i64 o.kind, .int .i64 o.who, .int .i64 o.inn, .int .i64 o.code, .int .i64 o.sec, .int .i64 o.fam, .int .i64 o.gen] t1)).alloc (.cells #[v] t2)).alloc (.cells #[.bool false, .slice none 0 0, .slice none 0 0] t3)) := by
  refine ⟨((Held.new w _ t1).after _).after _, ?_, ?_, belowThree _ _ _ _⟩
  · have h := (Held.new (w.alloc (.cells #[.int .i64 o.kind, .int .i64 o.who, .int .i64 o.inn, .int .i64 o.code, .int .i64 o.sec, .int .i64 o.fam, .int .i64 o.gen] t1)) #[v] t2).after (.cells #[.bool false, .slice none 0 0, .slice none 0 0] t3)
    rwa [show (w.alloc (.cells #[.int .i64 o.kind, .int .i64 o.who, .int .i64 o.inn, .int .i64 o.code, .int .i64 o.sec, .int .i64 o.fam, .int .i64 o.gen] t1)).heap.size = w.heap.size + 1 by simp] at h
  · have h := Held.new ((w.alloc (.cells #[.int .i64 o.kind, .int .i64 o.who, .int .i64 o.inn, .int .i64 o.code, .int .i64 o.sec, .int .i64 o.fam, .int .i64 o.gen] t1)).alloc (.cells #[v] t2)) #[.bool false, .slice none 0 0, .slice none 0 0] t3
    rwa [show ((w.alloc (.cells #[.int .i64 o.kind, .int .i64 o.who, .int .i64 o.inn, .int .i64 o.code, .int .i64 o.sec, .int .i64 o.fam, .int .i64 o.gen] t1)).alloc (.cells #[v] t2)).heap.size = w.heap.size + 1 + 1 by simp] at h
end
/-- A plan out of what it holds and what it writes. -/
theorem planOwn {w0 W : World} (lo : Nat) {pl : Plan} {u v : Value} {S1 S2 : Nat → Prop} (hu : strSh.Own 9 W S1 u pl.locks) (hv : wrSh.Own 77 W S2 v pl.writes) (h1 : ∀ b, S1 b → lo ≤ b) (h2 : ∀ b, S2 b → lo ≤ b) (hd : ∀ b, S1 b → S2 b → False) (hz : w0.heap.size ≤ lo) :
    planSh.own W (fun b => w0.heap.size ≤ b ∧ b < W.heap.size) [.bool pl.ok, u, v] pl :=
  plan_own.2 ⟨u, v, _, _, rfl, hu.cap, hv.cap, fun b hb => ⟨Nat.le_trans hz (h1 b hb.1), hb.2⟩, fun b hb => ⟨Nat.le_trans hz (h2 b hb.1), hb.2⟩, fun b hb hb' => hd b hb.1 hb'.1⟩
/-- A plan of what may not be: names made, then refused, then laid into the plan's block. -/
theorem planNo {w0 w1 w2 : World} {R : Nat} (keys : List ByteArray) (cells : Array Value) (hc : cells.toList = keys.map Value.string) (hk : ∀ x ∈ keys, x.size ≤ maxLen) (hl : keys.length ≤ maxLen) (hz : w0.heap.size ≤ w1.heap.size) (hR : R < w1.heap.size)
    (hb : Below (w1.alloc (.cells cells 9)).heap.size (w1.alloc (.cells cells 9)) w2) (x : Value) :
    planSh.own (put3 w2 R x (.slice (some ⟨w1.heap.size, 0, none⟩) keys.length keys.length) (.slice none 0 0)) (fun b => w0.heap.size ≤ b ∧ b < (put3 w2 R x (.slice (some ⟨w1.heap.size, 0, none⟩) keys.length keys.length) (.slice none 0 0)).heap.size) [.bool false, .slice (some ⟨w1.heap.size, 0, none⟩) keys.length keys.length, .slice none 0 0] (noP keys) := by
  have h := (strs_lit w1 keys cells hc hk hl).below hb
  have h' := h.keep (w' := put3 w2 R x (.slice (some ⟨w1.heap.size, 0, none⟩) keys.length keys.length) (.slice none 0 0)) fun b hb' _ => put3_far _ _ _ _ _ (by omega)
  exact planOwn (pl := noP keys) w1.heap.size h' (Sh.Own.nil _ (fun _ => False)) (fun b hb' => by omega) (fun b hb' => hb'.elim) (fun b _ h2 => h2) hz

theorem alloc_size (w : World) (x : Obj) : (w.alloc x).heap.size = w.heap.size + 1 := by simp
/-- A plan with one write of numbers: names, numbers and writes made, in this order, behind the store into the plan's block. -/
theorem planOne {w0 w1 W0 : World} (keys : List ByteArray) (cells ints : Array Value) (key : ByteArray) (xs : List Int) (hc : cells.toList = keys.map Value.string) (hk : ∀ x ∈ keys, x.size ≤ maxLen) (hl : keys.length ≤ maxLen)
    (hi : ints.toList = xs.map (Value.int .i64)) (hil : xs.length ≤ maxLen) (hkey : key.size ≤ maxLen) (hz : w0.heap.size ≤ w1.heap.size) (hW : W0.heap.size = w1.heap.size) {W : World}
    (hE : W = ((W0.alloc (.cells cells 9)).alloc (.cells ints 3)).alloc (.cells #[.string key, .bool false, .slice (some ⟨w1.heap.size + 1, 0, none⟩) xs.length xs.length] 77)) :
    planSh.own W (fun b => w0.heap.size ≤ b ∧ b < W.heap.size) [.bool true, .slice (some ⟨w1.heap.size, 0, none⟩) keys.length keys.length, .slice (some ⟨w1.heap.size + 1 + 1, 0, none⟩) 1 1] ⟨true, keys, [⟨key, false, xs⟩]⟩ := by
  subst hE
  have hL := strs_lit W0 keys cells hc hk hl
  have hI := ints_lit (W0.alloc (.cells cells 9)) xs ints hi hil
  rw [alloc_size, hW] at hI
  have hWr := wrs_lit1 ((W0.alloc (.cells cells 9)).alloc (.cells ints 3)) _ key false _ xs hkey hI (fun b hb => by rw [alloc_size, alloc_size, hW]; omega)
  rw [alloc_size, alloc_size, hW] at hWr
  rw [hW] at hL
  exact planOwn (pl := ⟨true, keys, [⟨key, false, xs⟩]⟩) w1.heap.size ((hL.below (belowOne _ _)).below (belowOne _ _)) hWr (fun b hb => by omega) (fun b hb => by omega) (fun b h1 h2 => by omega) hz

set_option maxRecDepth 100000 in
theorem refused_any (w : World) (A : Option Addr) (n c : Nat) :
    Calls Tryz.prog 145 #[.slice A n c] w fun e w' => e = .returned (.agg #[.bool false, .slice A n c, .slice none 0 0]) ∧ Below w.heap.size w w' := by
  go_enter Tryz.func145, Tryz.ntmps145
  go_wp2
  refine bodyPost_ret (v := .agg #[.bool false, .slice A n c, .slice none 0 0]) (by simp [results, Tryz.results145, go_sem]) rfl ⟨rfl, belowOne _ _⟩

set_option maxRecDepth 100000 in
set_option maxHeartbeats 1000000 in
theorem planDone_any (w : World) (o : Op) (v : Value) (its : List Item) (hv : Items w w.heap.size v its) (hs : stoB its = true) (tx : Int) (h0 : 0 ≤ tx) (h9 : tx ≤ 29) :
    Calls Tryz.prog 141 #[opV o, .agg #[v], .int .i64 tx] w (Planned (doneP its tx o) true w) := by
  obtain ⟨A, c, rfl, hc2, hc1⟩ := hv.form
  have HV := Lib.hid hv
  have HS := Lib.hid (Pl3.start w o (.slice A its.length c) 118 35 41)
  have hok := getOk_yes (key := keyN 97 tx) hs
  clear hv
  go_enter Tryz.func141, Tryz.ntmps141
  go_wp2_with (go_at_call 143; refine (numbered_any _ _ _ h0 h9).mono ?_; rintro e w' ⟨rfl, rfl⟩)
  refine (implStoGet_any _ _ _ _ ((HV.out.below HS.out.bel).more HS.out.bel.size)).mono ?_
  rintro e w1 ⟨u, rfl, -, hb⟩
  rw [hok]
  clear hok
  replace HS := Lib.hid (HS.out.call hb)
  clear hb
  obtain ⟨hz0, hz1, hz2⟩ := HS.out.size
  rcases hlk : lookOk its (keyN 97 tx)
  · have HP := Lib.hid (show doneP its tx o = _ by unfold doneP; rw [hlk, if_neg (by decide)])
    have o0 := HS.out.op.of 0 _ rfl
    have p0 := HS.out.pl.of 0 _ rfl
    have p1 := HS.out.pl.of 1 _ rfl
    have p2 := HS.out.pl.of 2 _ rfl
    have fr := HS.out.pl.2.1
    go_wp2
    clear o0 p0 p1 p2 fr
    have HQ := (((HS.out.pl.put3 (.bool true) (.slice (some ⟨w1.heap.size, 0, none⟩) 1 1) (.slice (some ⟨w1.heap.size + 1 + 1, 0, none⟩) 1 1)).after (.cells #[.string (keyN 97 tx)] 9)).after (.cells #[.int .i64 o.kind] 3)).after (.cells #[.string (keyN 97 tx), .bool false, .slice (some ⟨w1.heap.size + 1, 0, none⟩) 1 1] 77)
    have q0 := HQ.of 0 _ rfl
    have q1 := HQ.of 1 _ rfl
    have q2 := HQ.of 2 _ rfl
    rw [HP.out]
    refine bodyPost_ret (v := .tuple #[.agg #[.bool true, .slice (some ⟨w1.heap.size, 0, none⟩) 1 1, .slice (some ⟨w1.heap.size + 1 + 1, 0, none⟩) 1 1], .bool true]) (by simp only [results, Tryz.results141, go_sem]; simp [go_sem, q0, q1, q2]) rfl ⟨_, _, rfl, planOne (w1 := w1) [keyN 97 tx] #[.string (keyN 97 tx)] #[.int .i64 o.kind] (keyN 97 tx) [o.kind] rfl (by simp [keyN_max]) (by unfold maxLen; simp) rfl (by unfold maxLen; simp) (keyN_max _ _) HS.out.bel.size (put3_size _ _ _ _ _) rfl, ?_⟩
    exact (((belowPut3 HS.out.bel (w.heap.size + 1 + 1) (by omega) _ _ _).alloc (by rw [put3_size]; omega) _).alloc (by rw [alloc_size, put3_size]; omega) _).alloc (by rw [alloc_size, alloc_size, put3_size]; omega) _
  · have HP := Lib.hid (show doneP its tx o = _ by unfold doneP; rw [hlk, if_pos rfl])
    go_wp2_with fail
    refine (refused_any _ _ _ _).mono ?_
    rintro e w2 ⟨rfl, hb⟩
    have HB := Lib.hid hb
    have HT := Lib.hid ((HS.out.call (belowOne _ _)).call hb)
    have p0 := HT.out.pl.of 0 _ rfl
    have p1 := HT.out.pl.of 1 _ rfl
    have p2 := HT.out.pl.of 2 _ rfl
    have fr := HT.out.pl.2.1
    clear hb
    go_wp2
    clear p0 p1 p2 fr
    have HQ := HT.out.pl.put3 (.bool false) (.slice (some ⟨w1.heap.size, 0, none⟩) 1 1) (.slice none 0 0)
    have q0 := HQ.of 0 _ rfl
    have q1 := HQ.of 1 _ rfl
    have q2 := HQ.of 2 _ rfl
    rw [HP.out]
    refine bodyPost_ret (v := .tuple #[.agg #[.bool false, .slice (some ⟨w1.heap.size, 0, none⟩) 1 1, .slice none 0 0], .bool true]) (by simp only [results, Tryz.results141, go_sem]; simp [go_sem, q0, q1, q2]) rfl ⟨_, _, rfl, planNo [keyN 97 tx] #[.string (keyN 97 tx)] rfl (by simp [keyN_max]) (by unfold maxLen; simp) HS.out.bel.size hz2 HB.out _, ?_⟩
    exact belowPut3 HT.out.bel (w.heap.size + 1 + 1) (by omega) _ _ _

end Go.Proofs.YtecdibpiojgppaaGreat
