/- Texts that follow each other, merged: OpenF, JaHas, PlanSh. -/
import Derived.Test.YtkamlibfcakblaaXDiskOf
import Derived.Test.YtkamlibfcakblaaXCmp
import Derived.Test.YtkamlibfcakblaaXExItems
import Derived.Test.YtkamlibfcakblaaXHStr

/- What is open and locked, of the plain lists: just those who are ready, each name once. -/
namespace Go.Proofs.Ytkamlibfcakblaa

theorem memB_iff {xs : List Int} {n : Int} : memB xs n = true ↔ n ∈ xs := by unfold memB; exact List.contains_iff_mem
theorem hasB_iff {l : List ByteArray} {s : ByteArray} : hasB l s = true ↔ s ∈ l := by
  unfold hasB; rw [List.any_eq_true]
  constructor
  · rintro ⟨x, hx, e⟩; have := of_decide_eq_true e; exact this ▸ hx
  · intro h; exact ⟨s, h, by simp⟩
theorem mem_addI {xs : List Int} {n m : Int} : m ∈ addI xs n ↔ m ∈ xs ∨ m = n := by
  unfold addI
  split
  · rename_i h
    have := memB_iff.1 h
    constructor
    · exact .inl
    · rintro (h | rfl)
      · exact h
      · exact this
  · simp
theorem mem_addS {xs : List ByteArray} {n m : ByteArray} : m ∈ addS xs n ↔ m ∈ xs ∨ m = n := by
  unfold addS
  split
  · rename_i h
    have := hasB_iff.1 h
    constructor
    · exact .inl
    · rintro (h | rfl)
      · exact h
      · exact this
  · simp
theorem mem_foldI {m : Int} : ∀ (ys : List Note) (o : List Int), m ∈ ys.foldl (fun o n => addI o n.tx) o ↔ m ∈ o ∨ ∃ y ∈ ys, y.tx = m
  | [], _ => by simp
  | y :: ys, o => by
    rw [List.foldl_cons, mem_foldI ys, mem_addI]
    constructor
    · rintro ((h | rfl) | ⟨z, hz, e⟩)
      · exact .inl h
      · exact .inr ⟨y, by simp, rfl⟩
      · exact .inr ⟨z, by simp [hz], e⟩
    · rintro (h | ⟨z, hz, e⟩)
      · exact .inl (.inl h)
      · rcases List.mem_cons.1 hz with rfl | hz
        · exact .inl (.inr e.symm)
        · exact .inr ⟨z, hz, e⟩
theorem mem_opensTx {m : Int} {ys : List Note} : m ∈ opensTx ys ↔ ∃ y ∈ ys, y.tx = m := by unfold opensTx; rw [mem_foldI]; simp
theorem mem_addAll {m : ByteArray} : ∀ (ls xs : List ByteArray), m ∈ addAll xs ls ↔ m ∈ xs ∨ m ∈ ls
  | [], _ => by simp [addAll]
  | l :: ls, xs => by
    have e : addAll xs (l :: ls) = addAll (addS xs l) ls := rfl
    rw [e, mem_addAll ls, mem_addS, List.mem_cons, or_assoc]
theorem mem_foldS {m : ByteArray} : ∀ (ys : List Note) (o : List ByteArray), m ∈ ys.foldl (fun o n => addAll o n.locks) o ↔ m ∈ o ∨ ∃ y ∈ ys, m ∈ y.locks
  | [], _ => by simp
  | y :: ys, o => by
    rw [List.foldl_cons, mem_foldS ys, mem_addAll]
    constructor
    · rintro ((h | h) | ⟨z, hz, e⟩)
      · exact .inl h
      · exact .inr ⟨y, by simp, h⟩
      · exact .inr ⟨z, by simp [hz], e⟩
    · rintro (h | ⟨z, hz, e⟩)
      · exact .inl (.inl h)
      · rcases List.mem_cons.1 hz with rfl | hz
        · exact .inl (.inr e)
        · exact .inr ⟨z, hz, e⟩
theorem mem_opensKeys {m : ByteArray} {ys : List Note} : m ∈ opensKeys ys ↔ ∃ y ∈ ys, m ∈ y.locks := by unfold opensKeys; rw [mem_foldS]; simp
theorem nodup_addS {xs : List ByteArray} {n : ByteArray} (h : xs.Nodup) : (addS xs n).Nodup := by
  unfold addS
  split
  · exact h
  · rename_i hn
    rw [List.nodup_append]
    refine ⟨h, by simp, fun a ha b hb e => hn (hasB_iff.2 ?_)⟩
    have hbn := List.mem_singleton.1 hb
    subst hbn
    exact e ▸ ha
theorem nodup_addAll : ∀ (ls xs : List ByteArray), xs.Nodup → (addAll xs ls).Nodup
  | [], _, h => h
  | l :: ls, xs, h => nodup_addAll ls (addS xs l) (nodup_addS h)
theorem nodup_foldS : ∀ (ys : List Note) (o : List ByteArray), o.Nodup → (ys.foldl (fun o n => addAll o n.locks) o).Nodup
  | [], _, h => h
  | y :: ys, o, h => nodup_foldS ys (addAll o y.locks) (nodup_addAll y.locks o h)
theorem nodup_opensKeys (ys : List Note) : (opensKeys ys).Nodup := nodup_foldS ys [] List.nodup_nil

theorem foldK_mem {tx : Int} : ∀ (ns : List Note) (h : Int), (ns.foldl (stepK tx) h = h) ∨ ∃ y ∈ ns, hitK tx y = true ∧ ns.foldl (stepK tx) h = y.kind
  | [], _ => .inl rfl
  | n :: ns, h => by
    rw [List.foldl_cons]
    rcases foldK_mem ns (stepK tx h n) with e | ⟨y, hy, hh, e⟩
    · by_cases hn : hitK tx n = true
      · exact .inr ⟨n, by simp, hn, by rw [e]; simp [stepK, hn]⟩
      · exact .inl (by rw [e]; simp [stepK, hn])
    · exact .inr ⟨y, by simp [hy], hh, e⟩
/-- Whoever is ready, and no more, has a note of that. -/
theorem last_ready {ns : List Note} {tx : Int} (h : lastK ns tx = 1) : ∃ y ∈ ns, y.kind = 1 ∧ y.tx = tx := by
  unfold lastK at h
  rcases foldK_mem ns 0 (tx := tx) with e | ⟨y, hy, hh, e⟩
  · rw [e] at h; cases h
  · unfold hitK at hh
    simp only [Bool.and_eq_true, decide_eq_true_eq] at hh
    exact ⟨y, hy, by omega, hh.1⟩
theorem mem_inD {ns : List Note} {y : Note} : y ∈ inD ns ns.length ↔ y ∈ ns ∧ y.kind = 1 ∧ lastK ns y.tx = 1 := by
  rw [inD_all, List.mem_filter]
  unfold openB
  simp
theorem mem_openD {x : Disk} (h : diskB x = true) {tx : Int} : tx ∈ openD x ↔ lastK x.notes tx = 1 := by
  rw [openD_yes h, mem_opensTx]
  constructor
  · rintro ⟨y, hy, rfl⟩; exact (mem_inD.1 hy).2.2
  · intro hl
    obtain ⟨y, hy, hk, rfl⟩ := last_ready hl
    exact ⟨y, mem_inD.2 ⟨hy, hk, hl⟩, rfl⟩
theorem memB_openD {x : Disk} (h : diskB x = true) (tx : Int) : memB (openD x) tx = (ofD x tx == 1) := by
  rw [ofD_yes h]
  cases e : memB (openD x) tx with
  | true => have := (mem_openD h).1 (memB_iff.1 e); simp [this]
  | false =>
    have hn : ¬ lastK x.notes tx = 1 := fun hl => by
      have := memB_iff.2 ((mem_openD h).2 hl)
      rw [e] at this; cases this
    simp [hn]
theorem mem_locksD {x : Disk} (h : diskB x = true) {m : ByteArray} : m ∈ locksD x ↔ ∃ y ∈ x.notes, y.kind = 1 ∧ y.tx ∈ openD x ∧ m ∈ y.locks := by
  rw [locksD_yes h, mem_opensKeys]
  constructor
  · rintro ⟨y, hy, hm⟩
    have := mem_inD.1 hy
    exact ⟨y, this.1, this.2.1, (mem_openD h).2 this.2.2, hm⟩
  · rintro ⟨y, hy, hk, ho, hm⟩
    exact ⟨y, mem_inD.2 ⟨hy, hk, (mem_openD h).1 ho⟩, hm⟩
theorem nodup_locksD (x : Disk) : (locksD x).Nodup := by
  unfold locksD; split
  · exact nodup_opensKeys _
  · exact List.nodup_nil
/-- Each name is there once. -/
theorem once_before {l : List ByteArray} {k : Nat} {m : ByteArray} (h : l.Nodup) (hk : l[k]? = some m) : hasB (l.take k) m = false := by
  rw [← Bool.not_eq_true, hasB_iff]
  intro hm
  obtain ⟨hlt, rfl⟩ := List.getElem?_eq_some_iff.1 hk
  have e : l = l.take k ++ l[k] :: l.drop (k + 1) := by rw [← List.drop_eq_getElem_cons hlt, List.take_append_drop]
  rw [e, List.nodup_append] at h
  exact h.2.2 _ hm _ List.mem_cons_self rfl
theorem openD_len (x : Disk) : (openD x).length ≤ x.notes.length := by
  unfold openD; split
  · exact Nat.le_trans (opensTx_len _) (inD_len _ _)
  · simp
theorem locksD_len {x : Disk} : (locksD x).length ≤ 12 * x.notes.length := by
  unfold locksD; split
  · rename_i h
    exact Nat.le_trans (opensKeys_len fun y hy => noteB_locks (diskB_note h (inD_mem hy))) (Nat.mul_le_mul_left 12 (inD_len _ _))
  · simp

end Go.Proofs.Ytkamlibfcakblaa

/- jaHas of the laws. -/
namespace Go.Proofs.Ytkamlibfcakblaa
open Go.RowKit

/-- A text is one of some. -/
def hasT (xs : List ByteArray) (s : ByteArray) : Bool := xs.any fun x => decide (x = s)
theorem hasT_yes {xs : List ByteArray} {s : ByteArray} (h : s ∈ xs) : hasT xs s = true := List.any_eq_true.2 ⟨s, h, by simp⟩
theorem hasT_no {xs : List ByteArray} {s : ByteArray} (h : s ∉ xs) : hasT xs s = false := by
  unfold hasT
  rw [List.any_eq_false]
  intro x hx
  simp only [decide_eq_true_eq]
  exact fun e => h (e ▸ hx)
/-- None of the first k is it. -/
def FreeTo (xs : List ByteArray) (s : ByteArray) (k : Nat) : Prop := ∀ j, j < k → xs[j]? ≠ some s
theorem FreeTo.start (xs : List ByteArray) (s : ByteArray) : FreeTo xs s 0 := fun j h => absurd h (by omega)
theorem FreeTo.step {xs : List ByteArray} {s x : ByteArray} {k : Nat} (h : FreeTo xs s k) (hx : xs[k]? = some x) (hn : x ≠ s) : FreeTo xs s (k + 1) := by
  intro j hj
  rcases Nat.lt_or_ge j k with hlt | hge
  · exact h j hlt
  · have : j = k := by omega
    subst this
    rw [hx]
    exact fun e => hn (Option.some.inj e)
theorem FreeTo.all {xs : List ByteArray} {s : ByteArray} (h : FreeTo xs s xs.length) : hasT xs s = false := by
  refine hasT_no fun hm => ?_
  obtain ⟨j, hj, e⟩ := List.getElem_of_mem hm
  exact h j hj (by rw [List.getElem?_eq_getElem hj, e])
theorem hasT_at {xs : List ByteArray} {s x : ByteArray} {k : Nat} (hx : xs[k]? = some x) (h : x = s) : hasT xs s = true := by
  exact hasT_yes (h ▸ List.mem_of_getElem? hx)
set_option maxRecDepth 100000 in
theorem jaHas_any (w : World) (B : Nat) (v : Value) (xs : List ByteArray) (s : ByteArray) (hv : strSh.Row w B v xs) :
    Calls Try.prog 27 #[v, .string s] w fun e w' => e = .returned (.bool (hasT xs s)) ∧ w = w' := by
  obtain ⟨A, c, rfl, hc2, hc1⟩ := hv.form
  unfold maxLen at hc2
  go_enter Try.func27, Try.ntmps27
  go_wp2
  go_loop [5] (fun i => ∃ k : Nat, k ≤ xs.length ∧ i = .int .i64 k ∧ FreeTo xs s k) (fun i => xs.length - (intOf i).toNat)
  case atStart => exact ⟨0, Nat.zero_le _, rfl, FreeTo.start xs s⟩
  case round =>
    obtain ⟨k, hk, rfl, hf⟩ := hrel
    by_cases hlt : k < xs.length
    · obtain ⟨b, off, d, x, e1, hx, hB, hs, cu⟩ := strs_at hv hlt
      injection e1 with e1a e1b e1c
      subst e1a
      clear e1b e1c hv hs
      by_cases hn : x = s
      · have HM := Lib.hid (hasT_at hx hn)
        have hb1 : (x.toList == s.toList) = true := by rw [eq_toList]; simpa using hn
        clear hn hx hf
        go_wp2
        go_ret
        exact ⟨ret_bool HM.out.symm, rfl⟩
      · have HS := Lib.hid (hf.step hx hn)
        have hb1 : (x.toList == s.toList) = false := by rw [eq_toList]; simpa using hn
        clear hn hx hf
        go_wp2
        go_round
        case rel => exact ⟨k + 1, by omega, by go_num, HS.out⟩
        case measure => simp [intOf]; omega
    · have hks : k = xs.length := by omega
      have HM := Lib.hid (FreeTo.all (hks ▸ hf : FreeTo xs s xs.length))
      clear hks hv hf
      go_wp2
      go_ret
      exact ⟨ret_bool HM.out.symm, rfl⟩

end Go.Proofs.Ytkamlibfcakblaa

/- Plans: what they are, how they lie in memory. -/
namespace Go.Proofs.Ytkamlibfcakblaa
open Go.RowKit

/-- A plan: whether it may be, which names it holds, what it writes. -/
structure Plan where
  ok : Bool
  locks : List ByteArray
  writes : List Wr
def planSh : Sh Plan := (Sh.bool.pair (strsSh.pair wrsSh)).conv (fun x => (x.ok, x.locks, x.writes)) (fun p => ⟨p.1, p.2.1, p.2.2⟩) rfl
section
variable {w : World} {B : Nat} {S : Nat → Prop} {v : Value}
theorem plan_rel {cs : List Value} {x : Plan} : planSh.rel w B cs x ↔ ∃ u v, cs = [.bool x.ok, u, v] ∧ strSh.Row w B u x.locks ∧ wrSh.Row w B v x.writes := by
  constructor
  · rintro ⟨c1, c2, rfl, h1, c5, c6, rfl, ⟨u, rfl, h3⟩, v, rfl, h4⟩
    have h1' : c1 = [.bool x.ok] := h1
    subst h1'
    exact ⟨u, v, rfl, h3, h4⟩
  · rintro ⟨u, v, rfl, h3, h4⟩
    exact ⟨_, _, rfl, rfl, _, _, rfl, ⟨u, rfl, h3⟩, v, rfl, h4⟩
theorem plan_own {cs : List Value} {x : Plan} : planSh.own w S cs x ↔ ∃ u v S1 S2, cs = [.bool x.ok, u, v] ∧ strSh.Own 9 w S1 u x.locks ∧ wrSh.Own 86 w S2 v x.writes ∧ (∀ b, S1 b → S b) ∧ (∀ b, S2 b → S b) ∧ ∀ b, S1 b → S2 b → False := by
  constructor
  · rintro ⟨c1, c2, S1, S2, rfl, h1, ⟨c5, c6, S5, S6, rfl, ⟨u, rfl, h3⟩, ⟨v, rfl, h4⟩, s5, s6, d⟩, -, s2, -⟩
    have h1' : c1 = [.bool x.ok] := h1
    subst h1'
    exact ⟨u, v, S5, S6, rfl, h3, h4, fun b hb => s2 b (s5 b hb), fun b hb => s2 b (s6 b hb), d⟩
  · rintro ⟨u, v, S1, S2, rfl, h3, h4, s1, s2, d⟩
    exact ⟨_, _, fun _ => False, S, rfl, rfl, ⟨_, _, S1, S2, rfl, ⟨u, rfl, h3⟩, ⟨v, rfl, h4⟩, s1, s2, d⟩, fun _ h => h.elim, fun _ h => h, fun _ h _ => h⟩
end

/-- What a method that plans leaves: a plan of its own, and whether it is done there. -/
def Planned (pl : Plan) (here : Bool) (w : World) (e : Ending) (w' : World) : Prop :=
  ∃ u v, e = .returned (.tuple #[.agg #[.bool pl.ok, u, v], .bool here]) ∧ planSh.own w' (fun b => w.heap.size ≤ b ∧ b < w'.heap.size) [.bool pl.ok, u, v] pl ∧ Below w.heap.size w w'

section
variable {α : Type} {A : Sh α} {e : TypeId} {w : World}
/-- A literal of elements that own what they reach in blocks of S. -/
theorem Sh.Own.lit (A : Sh α) (e : TypeId) (w : World) (cells : Array Value) (xs : List α) (C : Nat → List Value) (F : Nat → Nat → Prop) (S : Nat → Prop) (hl : xs.length ≤ maxLen) (hC : cells.toList = flat C xs.length)
    (ho : ∀ j x, xs[j]? = some x → A.own w (F j) (C j) x ∧ ∀ b, F j b → S b ∧ b < w.heap.size) (hd : ∀ i j b, i < j → j < xs.length → F i b → ¬ F j b) :
    A.Own e (w.alloc (.cells cells e)) (fun b => S b ∨ b = w.heap.size) (.slice (some ⟨w.heap.size, 0, none⟩) xs.length xs.length) xs := by
  have hlen : cells.size = xs.length * A.wd := by
    have : cells.toList.length = xs.length * A.wd := by rw [hC]; exact flat_len fun j hj => A.olen (ho j _ (List.getElem?_eq_getElem hj)).1
    simpa using this
  refine ⟨C, F, ?_, fun g hg => .inr (Option.some.inj hg).symm, fun j x hx => ⟨A.okeep (ho j x hx).1 fun b _ hlt => (belowOne w (.cells cells e)).block b hlt, fun b hb => ⟨.inl ((ho j x hx).2 b hb).1, fun e1 => ?_⟩⟩, hd⟩
  · have h := World.ownsRow_lit (base := 0) (e := e) (size := A.wd) w cells xs.length (Nat.zero_le _) hl hlen
    rw [hC] at h; exact h
  · have h1 : w.heap.size = b := Option.some.inj e1
    have h2 := ((ho j x hx).2 b hb).2
    omega
end
theorem strs_lit (w : World) (xs : List ByteArray) (cells : Array Value) (hc : cells.toList = xs.map Value.string) (hx : ∀ x ∈ xs, x.size ≤ maxLen) (hl : xs.length ≤ maxLen) :
    strSh.Own 9 (w.alloc (.cells cells 9)) (fun b => b = w.heap.size) (.slice (some ⟨w.heap.size, 0, none⟩) xs.length xs.length) xs := by
  have h := Sh.Own.lit strSh 9 w cells xs (fun j => [.string (xs[j]?.getD ByteArray.empty)]) (fun _ _ => False) (fun _ => False) hl (by
    rw [hc]
    refine flat_ext (d := 1) (fun _ _ => rfl) (by simp) fun j i hj hi => ?_
    have hi0 : i = 0 := by omega
    subst hi0
    simp [hj]) (fun j x hx' => ⟨⟨by rw [hx']; rfl, hx x (List.mem_of_getElem? hx')⟩, fun _ h => h.elim⟩) (fun _ _ _ _ _ h => h.elim)
  exact h.mono fun b hb => hb.elim False.elim id
theorem ints_lit (w : World) (xs : List Int) (cells : Array Value) (hc : cells.toList = xs.map (Value.int .i64)) (hl : xs.length ≤ maxLen) :
    Sh.int.Own 3 (w.alloc (.cells cells 3)) (fun b => b = w.heap.size) (.slice (some ⟨w.heap.size, 0, none⟩) xs.length xs.length) xs := by
  have h := Sh.Own.lit Sh.int 3 w cells xs (fun j => [.int .i64 (xs[j]?.getD 0)]) (fun _ _ => False) (fun _ => False) hl (by
    rw [hc]
    refine flat_ext (d := 1) (fun _ _ => rfl) (by simp) fun j i hj hi => ?_
    have hi0 : i = 0 := by omega
    subst hi0
    simp [hj]) (fun j x hx' => ⟨by rw [hx']; rfl, fun _ h => h.elim⟩) (fun _ _ _ _ _ h => h.elim)
  exact h.mono fun b hb => hb.elim False.elim id
/-- One write, made of numbers that are owned. -/
theorem wrs_lit1 (w : World) (S : Nat → Prop) (key : ByteArray) (del : Bool) (u : Value) (xs : List Int) (hk : key.size ≤ maxLen) (hu : Sh.int.Own 3 w S u xs) (hS : ∀ b, S b → b < w.heap.size) :
    wrSh.Own 86 (w.alloc (.cells #[.string key, .bool del, u] 86)) (fun b => S b ∨ b = w.heap.size) (.slice (some ⟨w.heap.size, 0, none⟩) 1 1) [⟨key, del, xs⟩] := by
  refine Sh.Own.lit wrSh 86 w #[.string key, .bool del, u] [⟨key, del, xs⟩] (fun _ => [.string key, .bool del, u]) (fun _ => S) S (by unfold maxLen; simp) (by simp [flat]) (fun j x hx => ?_) (fun i j b hij hj => by simp at hj; omega)
  have : x = ⟨key, del, xs⟩ := by
    have := List.mem_of_getElem? hx
    simpa using this
  subst this
  exact ⟨wr_own.2 ⟨u, rfl, hk, hu⟩, fun b hb => ⟨hb, hS b hb⟩⟩
/-- Two writes. -/
theorem wrs_lit2 (w : World) (S1 S2 : Nat → Prop) (k1 k2 : ByteArray) (d1 d2 : Bool) (u1 u2 : Value) (xs ys : List Int) (hk1 : k1.size ≤ maxLen) (hk2 : k2.size ≤ maxLen) (h1 : Sh.int.Own 3 w S1 u1 xs) (h2 : Sh.int.Own 3 w S2 u2 ys) (hS1 : ∀ b, S1 b → b < w.heap.size) (hS2 : ∀ b, S2 b → b < w.heap.size) (hd : ∀ b, S1 b → ¬ S2 b) :
    wrSh.Own 86 (w.alloc (.cells #[.string k1, .bool d1, u1, .string k2, .bool d2, u2] 86)) (fun b => (S1 b ∨ S2 b) ∨ b = w.heap.size) (.slice (some ⟨w.heap.size, 0, none⟩) 2 2) [⟨k1, d1, xs⟩, ⟨k2, d2, ys⟩] := by
  refine Sh.Own.lit wrSh 86 w #[.string k1, .bool d1, u1, .string k2, .bool d2, u2] [⟨k1, d1, xs⟩, ⟨k2, d2, ys⟩] (fun j => if j = 0 then [.string k1, .bool d1, u1] else [.string k2, .bool d2, u2]) (fun j => if j = 0 then S1 else S2) (fun b => S1 b ∨ S2 b) (by unfold maxLen; simp) (by simp [flat, List.range_succ]) (fun j x hx => ?_) (fun i j b hij hj => ?_)
  · match j, hx with
    | 0, hx =>
      simp at hx; subst hx
      exact ⟨wr_own.2 ⟨u1, rfl, hk1, h1⟩, fun b hb => ⟨.inl hb, hS1 b hb⟩⟩
    | 1, hx =>
      simp at hx; subst hx
      exact ⟨wr_own.2 ⟨u2, rfl, hk2, h2⟩, fun b hb => ⟨.inr hb, hS2 b hb⟩⟩
    | j + 2, hx => simp at hx
  · have hj' : j = 1 := by simp at hj; omega
    have hi' : i = 0 := by omega
    subst hj' hi'
    simpa using hd b

end Go.Proofs.Ytkamlibfcakblaa
