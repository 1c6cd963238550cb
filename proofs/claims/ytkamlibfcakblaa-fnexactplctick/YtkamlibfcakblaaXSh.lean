/- Shapes: how data of one type lie in memory, read (rel) or owned (own), how much they weigh, how many marks they bear. Nothing of the program. -/
import Derived.Test.YtkamlibfcakblaaXPlain
import Derived.Laws.AppendOwn
import Derived.Laws.OwnMore
import Derived.Maps.AppendAt
import Derived.Laws.MakeOwn
namespace Go.Proofs.Ytkamlibfcakblaa
open Go.RowKit

/-- A shape: wd cells each; rel: the cells read as x, all below block B; own: the cells and all that they reach lie in blocks of S, no two slices in one block. -/
structure Sh (α : Type) where
  wd : Nat
  zc : List Value
  z : α
  base : Nat
  rel : World → Nat → List Value → α → Prop
  own : World → (Nat → Prop) → List Value → α → Prop
  wt : α → Nat
  cnt : α → Nat
  mkd : Int → α → Prop
  zlen : zc.length = wd
  rlen : ∀ {w B cs x}, rel w B cs x → cs.length = wd
  rone : ∀ {w B cs x}, rel w B cs x → ∀ u ∈ cs, u.oneCell' = true
  rkeep : ∀ {w w' B cs x}, rel w B cs x → (∀ b o, b < B → w'.cell? ⟨b, o, none⟩ = w.cell? ⟨b, o, none⟩) → rel w' B cs x
  rmore : ∀ {w B B' cs x}, rel w B cs x → B ≤ B' → rel w B' cs x
  omono : ∀ {w S S' cs x}, own w S cs x → (∀ b, S b → S' b) → own w S' cs x
  okeep : ∀ {w w' S cs x}, own w S cs x → (∀ b, S b → b < w.heap.size → w'.heap[b]? = w.heap[b]?) → own w' S cs x
  orel : ∀ {w S cs x}, own w S cs x → rel w w.heap.size cs x
  ozero : ∀ w S, own w S zc z
  ocap : ∀ {w S cs x}, own w S cs x → own w (fun b => S b ∧ b < w.heap.size) cs x
  cntLe : ∀ x, cnt x ≤ base + 16 * wt x

section
variable {α : Type} (A : Sh α)
theorem Sh.olen {w S cs x} (h : A.own w S cs x) : cs.length = A.wd := A.rlen (A.orel h)
theorem Sh.oone {w S cs x} (h : A.own w S cs x) : ∀ u ∈ cs, u.oneCell' = true := A.rone (A.orel h)
theorem Sh.rbelow {w w' B cs x} (h : A.rel w B cs x) (hb : Below B w w') : A.rel w' B cs x := A.rkeep h fun b o hB => hb.cell (p := ⟨b, o, none⟩) hB
end

/-- One integer, one bool, one text. -/
def Sh.int : Sh Int where
  wd := 1
  zc := [.int .i64 0]
  z := 0
  base := 1
  rel _ _ cs n := cs = [.int .i64 n]
  own _ _ cs n := cs = [.int .i64 n]
  wt _ := 0
  cnt _ := 1
  mkd k n := n = k
  zlen := rfl
  rlen h := by rw [h]; rfl
  rone h := by rw [h]; intro u hu; simp at hu; rw [hu]; rfl
  rkeep h _ := h
  rmore h _ := h
  omono h _ := h
  okeep h _ := h
  orel h := h
  ozero _ _ := rfl
  ocap h := h
  cntLe _ := by omega
def Sh.bool : Sh Bool where
  wd := 1
  zc := [.bool false]
  z := false
  base := 1
  rel _ _ cs n := cs = [.bool n]
  own _ _ cs n := cs = [.bool n]
  wt _ := 0
  cnt _ := 1
  mkd k n := n = decide (k % 3 = 0)
  zlen := rfl
  rlen h := by rw [h]; rfl
  rone h := by rw [h]; intro u hu; simp at hu; rw [hu]; rfl
  rkeep h _ := h
  rmore h _ := h
  omono h _ := h
  okeep h _ := h
  orel h := h
  ozero _ _ := rfl
  ocap h := h
  cntLe _ := by omega
def Sh.str (mk : Int → ByteArray) : Sh ByteArray where
  wd := 1
  zc := [.string ByteArray.empty]
  z := ByteArray.empty
  base := 1
  rel _ _ cs s := cs = [.string s] ∧ s.size ≤ maxLen
  own _ _ cs s := cs = [.string s] ∧ s.size ≤ maxLen
  wt s := s.size
  cnt _ := 1
  mkd k s := s = mk k
  zlen := rfl
  rlen h := by rw [h.1]; rfl
  rone h := by rw [h.1]; intro u hu; simp at hu; rw [hu]; rfl
  rkeep h _ := h
  rmore h _ := h
  omono h _ := h
  okeep h _ := h
  orel h := h
  ozero _ _ := ⟨rfl, by unfold maxLen; exact Nat.zero_le _⟩
  ocap h := h
  cntLe _ := by omega

/-- Two, one behind the other. -/
def Sh.pair {α β : Type} (A : Sh α) (B : Sh β) : Sh (α × β) where
  wd := A.wd + B.wd
  zc := A.zc ++ B.zc
  z := (A.z, B.z)
  base := A.base + B.base
  rel w b cs x := ∃ c1 c2, cs = c1 ++ c2 ∧ A.rel w b c1 x.1 ∧ B.rel w b c2 x.2
  own w S cs x := ∃ c1 c2 S1 S2, cs = c1 ++ c2 ∧ A.own w S1 c1 x.1 ∧ B.own w S2 c2 x.2 ∧ (∀ b, S1 b → S b) ∧ (∀ b, S2 b → S b) ∧ ∀ b, S1 b → S2 b → False
  wt x := A.wt x.1 + B.wt x.2
  cnt x := A.cnt x.1 + B.cnt x.2
  mkd k x := A.mkd k x.1 ∧ B.mkd (k + A.cnt x.1) x.2
  zlen := by rw [List.length_append, A.zlen, B.zlen]
  rlen := by rintro w b cs x ⟨c1, c2, rfl, h1, h2⟩; rw [List.length_append, A.rlen h1, B.rlen h2]
  rone := by
    rintro w b cs x ⟨c1, c2, rfl, h1, h2⟩ u hu
    rcases List.mem_append.1 hu with h | h
    · exact A.rone h1 u h
    · exact B.rone h2 u h
  rkeep := by rintro w w' b cs x ⟨c1, c2, rfl, h1, h2⟩ hk; exact ⟨c1, c2, rfl, A.rkeep h1 hk, B.rkeep h2 hk⟩
  rmore := by rintro w b b' cs x ⟨c1, c2, rfl, h1, h2⟩ hk; exact ⟨c1, c2, rfl, A.rmore h1 hk, B.rmore h2 hk⟩
  omono := by rintro w S S' cs x ⟨c1, c2, S1, S2, rfl, h1, h2, s1, s2, d⟩ hS; exact ⟨c1, c2, S1, S2, rfl, h1, h2, fun b h => hS b (s1 b h), fun b h => hS b (s2 b h), d⟩
  okeep := by rintro w w' S cs x ⟨c1, c2, S1, S2, rfl, h1, h2, s1, s2, d⟩ hk; exact ⟨c1, c2, S1, S2, rfl, A.okeep h1 fun b h => hk b (s1 b h), B.okeep h2 fun b h => hk b (s2 b h), s1, s2, d⟩
  orel := by rintro w S cs x ⟨c1, c2, S1, S2, rfl, h1, h2, _⟩; exact ⟨c1, c2, rfl, A.orel h1, B.orel h2⟩
  ozero w S := ⟨A.zc, B.zc, fun _ => False, fun _ => False, rfl, A.ozero w _, B.ozero w _, fun _ h => h.elim, fun _ h => h.elim, fun _ h _ => h⟩
  ocap := by rintro w S cs x ⟨c1, c2, S1, S2, rfl, h1, h2, s1, s2, d⟩; exact ⟨c1, c2, _, _, rfl, A.ocap h1, B.ocap h2, fun b h => ⟨s1 b h.1, h.2⟩, fun b h => ⟨s2 b h.1, h.2⟩, fun b h h' => d b h.1 h'.1⟩
  cntLe x := by have h1 := A.cntLe x.1; have h2 := B.cntLe x.2; omega

/-- The same, of a record. -/
def Sh.conv {α β : Type} (A : Sh α) (f : β → α) (g : α → β) (hg : f (g A.z) = A.z) : Sh β where
  wd := A.wd
  zc := A.zc
  z := g A.z
  base := A.base
  rel w b cs x := A.rel w b cs (f x)
  own w S cs x := A.own w S cs (f x)
  wt x := A.wt (f x)
  cnt x := A.cnt (f x)
  mkd k x := A.mkd k (f x)
  zlen := A.zlen
  rlen h := A.rlen h
  rone h := A.rone h
  rkeep h k := A.rkeep h k
  rmore h k := A.rmore h k
  omono h k := A.omono h k
  okeep h k := A.okeep h k
  orel h := A.orel h
  ozero w S := by rw [hg]; exact A.ozero w S
  ocap h := A.ocap h
  cntLe x := A.cntLe (f x)

/-- Rows of cells. -/
def flat (C : Nat → List Value) (n : Nat) : List Value := (List.range n).flatMap C
theorem flat_zero (C : Nat → List Value) : flat C 0 = [] := rfl
theorem flat_succ (C : Nat → List Value) (n : Nat) : flat C (n + 1) = flat C n ++ C n := by simp [flat, List.range_succ]
theorem flat_len {C : Nat → List Value} {d : Nat} : ∀ {n : Nat}, (∀ j, j < n → (C j).length = d) → (flat C n).length = n * d
  | 0, _ => by simp [flat]
  | n + 1, h => by rw [flat_succ, List.length_append, flat_len fun j hj => h j (by omega), h n (by omega), Nat.add_mul, Nat.one_mul]
theorem flat_at {C : Nat → List Value} {d : Nat} : ∀ {n : Nat}, (∀ j, j < n → (C j).length = d) → ∀ {j i : Nat}, j < n → i < d → (flat C n)[j * d + i]? = (C j)[i]?
  | 0, _, j, i, hj, _ => by omega
  | n + 1, h, j, i, hj, hi => by
    have hl := flat_len (n := n) (d := d) fun j hj => h j (by omega)
    rw [flat_succ]
    rcases Nat.lt_or_ge j n with hlt | hge
    · have : (j + 1) * d ≤ n * d := Nat.mul_le_mul_right d hlt
      rw [Nat.add_mul, Nat.one_mul] at this
      rw [List.getElem?_append_left (by omega)]
      exact flat_at (fun j hj => h j (by omega)) hlt hi
    · have : j = n := by omega
      subst this
      rw [List.getElem?_append_right (by omega), hl]
      congr 1; omega
theorem flat_congr {C D : Nat → List Value} : ∀ {n : Nat}, (∀ j, j < n → C j = D j) → flat C n = flat D n
  | 0, _ => rfl
  | n + 1, h => by rw [flat_succ, flat_succ, flat_congr fun j hj => h j (by omega), h n (by omega)]
def updL (C : Nat → List Value) (k : Nat) (c : List Value) (j : Nat) : List Value := if j = k then c else C j
theorem updL_same (C : Nat → List Value) (k : Nat) (c : List Value) : updL C k c k = c := by simp [updL]
theorem updL_other (C : Nat → List Value) {k j : Nat} (c : List Value) (h : j ≠ k) : updL C k c j = C j := by simp [updL, h]
theorem flat_ext {C : Nat → List Value} {d n : Nat} (hC : ∀ j, j < n → (C j).length = d) {xs : List Value} (hl : xs.length = n * d) (h : ∀ j i, j < n → i < d → xs[j * d + i]? = (C j)[i]?) : xs = flat C n := by
  apply List.ext_getElem?
  intro m
  rcases Nat.lt_or_ge m (n * d) with hm | hm
  · have hd : 0 < d := by
      rcases Nat.eq_zero_or_pos d with h0 | h0
      · rw [h0, Nat.mul_zero] at hm; omega
      · exact h0
    have h1 : m / d < n := Nat.div_lt_of_lt_mul (by rw [Nat.mul_comm]; exact hm)
    have h2 : m % d < d := Nat.mod_lt m hd
    have h3 : m / d * d + m % d = m := by rw [Nat.mul_comm]; exact Nat.div_add_mod m d
    rw [← h3, h _ _ h1 h2, flat_at hC h1 h2]
  · rw [List.getElem?_eq_none (by omega), List.getElem?_eq_none (by rw [flat_len hC]; exact hm)]
theorem flat_set {C : Nat → List Value} {d n k i : Nat} {u : Value} (hC : ∀ j, j < n → (C j).length = d) (hk : k < n) (hi : i < d) : (flat C n).set (k * d + i) u = flat (updL C k ((C k).set i u)) n := by
  have hl := flat_len hC
  have hk' : (k + 1) * d ≤ n * d := Nat.mul_le_mul_right d hk
  rw [Nat.add_mul, Nat.one_mul] at hk'
  refine flat_ext (d := d) (fun j hj => ?_) (by rw [List.length_set, hl]) fun j m hj hm => ?_
  · by_cases e : j = k
    · subst e; rw [updL_same, List.length_set]; exact hC j hj
    · rw [updL_other _ _ e]; exact hC j hj
  · by_cases e : j = k
    · subst e
      rw [updL_same, List.getElem?_set, List.getElem?_set]
      by_cases e2 : i = m
      · subst e2
        rw [if_pos rfl, if_pos rfl, if_pos (by omega), if_pos (by rw [hC j hj]; exact hm)]
      · rw [if_neg (by omega), if_neg e2]; exact flat_at hC hj hm
    · rw [updL_other _ _ e, List.getElem?_set, if_neg, flat_at hC hj hm]
      intro he
      rcases Nat.lt_or_gt_of_ne e with h' | h'
      · have := Nat.mul_le_mul_right d (show j + 1 ≤ k by omega)
        rw [Nat.add_mul, Nat.one_mul] at this; omega
      · have := Nat.mul_le_mul_right d (show k + 1 ≤ j by omega)
        rw [Nat.add_mul, Nat.one_mul] at this; omega

/-- A slice that reads as xs, below block B. -/
def Sh.Row {α : Type} (A : Sh α) (w : World) (B : Nat) (v : Value) (xs : List α) : Prop :=
  ∃ Ad c, v = .slice Ad xs.length c ∧ xs.length ≤ c ∧ c ≤ maxLen ∧ (0 < xs.length → ∃ b off, Ad = some ⟨b, off, none⟩ ∧ b < B ∧
    ∀ j x, xs[j]? = some x → ∃ cs, A.rel w B cs x ∧ ∀ i u, cs[i]? = some u → w.cell? ⟨b, off + j * A.wd + i, none⟩ = some u)
/-- A slice of the call's own, all in blocks of S. -/
def Sh.Own {α : Type} (A : Sh α) (e : TypeId) (w : World) (S : Nat → Prop) (v : Value) (xs : List α) : Prop :=
  ∃ (C : Nat → List Value) (F : Nat → Nat → Prop), w.ownsRow 0 e A.wd v xs.length (flat C xs.length) ∧ (∀ g, v.ownBlock = some g → S g) ∧
    (∀ j x, xs[j]? = some x → A.own w (F j) (C j) x ∧ ∀ b, F j b → S b ∧ v.ownBlock ≠ some b) ∧ ∀ i j b, i < j → j < xs.length → F i b → ¬ F j b

/-- How much, how many, of a list; the mark at which the j-th begins. -/
def wtL {α : Type} (f : α → Nat) : List α → Nat
  | [] => 0
  | x :: l => 1 + f x + wtL f l
def cntL {α : Type} (f : α → Nat) : List α → Nat
  | [] => 0
  | x :: l => f x + cntL f l
def mkdL {α : Type} (f : α → Nat) (m : Int → α → Prop) : Int → List α → Prop
  | _, [] => True
  | k, x :: l => m k x ∧ mkdL f m (k + f x) l

section
variable {α : Type} {A : Sh α} {e : TypeId} {w w' : World} {B B' : Nat} {S S' : Nat → Prop} {v : Value} {xs : List α}
theorem Sh.Row.keep (h : A.Row w B v xs) (hk : ∀ b o, b < B → w'.cell? ⟨b, o, none⟩ = w.cell? ⟨b, o, none⟩) : A.Row w' B v xs := by
  obtain ⟨Ad, c, hv, h1, h2, hr⟩ := h
  refine ⟨Ad, c, hv, h1, h2, fun hn => ?_⟩
  obtain ⟨b, off, hA, hb, hc⟩ := hr hn
  refine ⟨b, off, hA, hb, fun j x hx => ?_⟩
  obtain ⟨cs, h3, h4⟩ := hc j x hx
  exact ⟨cs, A.rkeep h3 hk, fun i u hu => (hk b _ hb).trans (h4 i u hu)⟩
theorem Sh.Row.below (h : A.Row w B v xs) (hb : Below B w w') : A.Row w' B v xs := h.keep fun b o hB => hb.cell (p := ⟨b, o, none⟩) hB
theorem Sh.Row.more (h : A.Row w B v xs) (hB : B ≤ B') : A.Row w B' v xs := by
  obtain ⟨Ad, c, hv, h1, h2, hr⟩ := h
  refine ⟨Ad, c, hv, h1, h2, fun hn => ?_⟩
  obtain ⟨b, off, hA, hb, hc⟩ := hr hn
  refine ⟨b, off, hA, by omega, fun j x hx => ?_⟩
  obtain ⟨cs, h3, h4⟩ := hc j x hx
  exact ⟨cs, A.rmore h3 hB, h4⟩
theorem Sh.Row.alloc (h : A.Row w B v xs) (hB : B ≤ w.heap.size) (o : Obj) : A.Row (w.alloc o) B v xs := h.below ((Below.refl B w).alloc hB o)
theorem Sh.Row.form (h : A.Row w B v xs) : ∃ Ad c, v = .slice Ad xs.length c ∧ c ≤ maxLen ∧ xs.length ≤ c := by
  obtain ⟨Ad, c, hv, h1, h2, _⟩ := h
  exact ⟨Ad, c, hv, h2, h1⟩
theorem Sh.Row.onward {w0 w1 : World} (h : A.Row w B v xs) (hb : Below w0.heap.size w0 w1) (hw : w0.heap = w.heap) (hB : B ≤ w.heap.size) : A.Row w1 w1.heap.size v xs := by
  have h0 : A.Row w0 B v xs := h.keep fun b o _ => by simp only [World.cell?, hw]
  exact (h0.below (hb.mono (by rw [hw]; exact hB))).more (Nat.le_trans (by rw [hw]; exact hB) hb.size)
theorem Sh.Row.at_ (h : A.Row w B v xs) {k : Nat} (hk : k < xs.length) : ∃ b off c x cs, v = .slice (some ⟨b, off, none⟩) xs.length c ∧ xs[k]? = some x ∧ b < B ∧ A.rel w B cs x ∧
    ∀ i u, cs[i]? = some u → w.cell? ⟨b, off + k * A.wd + i, none⟩ = some u := by
  obtain ⟨Ad, c, hv, _, _, hr⟩ := h
  obtain ⟨b, off, hA, hb, hc⟩ := hr (by omega)
  obtain ⟨cs, h1, h2⟩ := hc k _ (List.getElem?_eq_getElem hk)
  exact ⟨b, off, c, _, cs, by rw [hv, hA], List.getElem?_eq_getElem hk, hb, h1, h2⟩
theorem Sh.Row.nil (w : World) (B : Nat) : A.Row w B (.slice none 0 0) [] := ⟨none, 0, rfl, Nat.le_refl _, Nat.zero_le _, fun h => absurd h (by simp)⟩

theorem Sh.Own.mono (h : A.Own e w S v xs) (hS : ∀ b, S b → S' b) : A.Own e w S' v xs := by
  obtain ⟨C, F, h1, h2, h3, h4⟩ := h
  exact ⟨C, F, h1, fun g hg => hS g (h2 g hg), fun j x hx => ⟨(h3 j x hx).1, fun b hb => ⟨hS b ((h3 j x hx).2 b hb).1, ((h3 j x hx).2 b hb).2⟩⟩, h4⟩
theorem ownsRow_keep {d n : Nat} {l : List Value} (h : w.ownsRow 0 e d v n l) (hk : ∀ b, v.ownBlock = some b → b < w.heap.size → w'.heap[b]? = w.heap[b]?) : w'.ownsRow 0 e d v n l := by
  refine ⟨h.1, ?_⟩
  rcases h.2 with hn | ⟨g, cap, cur, hv, hl, hgg, rest⟩
  · exact .inl hn
  · exact .inr ⟨g, cap, cur, hv, hl, by rw [hk g (by rw [hv]; rfl) (Array.getElem?_eq_some_iff.1 hgg).1]; exact hgg, rest⟩
theorem Sh.Own.keep (h : A.Own e w S v xs) (hk : ∀ b, S b → b < w.heap.size → w'.heap[b]? = w.heap[b]?) : A.Own e w' S v xs := by
  obtain ⟨C, F, h1, h2, h3, h4⟩ := h
  exact ⟨C, F, ownsRow_keep h1 fun b hb => hk b (h2 b hb), h2, fun j x hx => ⟨A.okeep (h3 j x hx).1 fun b hb => hk b ((h3 j x hx).2 b hb).1, (h3 j x hx).2⟩, h4⟩
theorem Sh.Own.below (h : A.Own e w S v xs) (hb : Below w.heap.size w w') : A.Own e w' S v xs := h.keep fun b _ hlt => hb.block b hlt
theorem Sh.Own.form (h : A.Own e w S v xs) : (v = .slice none 0 0 ∧ xs = []) ∨ ∃ g cap, v = .slice (some ⟨g, 0, none⟩) xs.length cap ∧ S g ∧ g < w.heap.size ∧ xs.length ≤ cap ∧ cap ≤ maxLen := by
  obtain ⟨C, F, h1, h2, _⟩ := h
  rcases h1.2 with ⟨hv, h0⟩ | ⟨g, cap, cur, hv, hb, hg, hn, hm, _⟩
  · exact .inl ⟨hv, List.length_eq_zero_iff.1 h0⟩
  · exact .inr ⟨g, cap, hv, h2 g (by rw [hv]; rfl), (Array.getElem?_eq_some_iff.1 hg).1, hn, hm⟩
theorem Sh.Own.row (h : A.Own e w S v xs) : A.Row w w.heap.size v xs := by
  rcases h.form with ⟨rfl, rfl⟩ | ⟨g, cap, rfl, hS, hg, hc1, hc2⟩
  · exact Sh.Row.nil _ _
  · obtain ⟨C, F, h1, h2, h3, h4⟩ := h
    refine ⟨_, cap, rfl, hc1, hc2, fun _ => ⟨g, 0, rfl, hg, fun j x hx => ?_⟩⟩
    have hj : j < xs.length := (List.getElem?_eq_some_iff.1 hx).1
    have hC : ∀ j, j < xs.length → (C j).length = A.wd := fun j hj => A.olen (h3 j _ (List.getElem?_eq_getElem hj)).1
    refine ⟨C j, A.orel (h3 j x hx).1, fun i u hu => ?_⟩
    have hi : i < A.wd := by rw [← hC j hj]; exact (List.getElem?_eq_some_iff.1 hu).1
    have hlt : j * A.wd + i < xs.length * A.wd := by
      have := Nat.mul_le_mul_right A.wd (show j + 1 ≤ xs.length by omega)
      rw [Nat.add_mul, Nat.one_mul] at this; omega
    rw [Nat.zero_add, h1.cellAt _ hlt, flat_at hC hj hi, hu]
theorem Sh.Own.nil (w : World) (S : Nat → Prop) : A.Own e w S (.slice none 0 0) [] :=
  ⟨fun _ => [], fun _ _ => False, World.ownsRow_nil _ _ _ _, fun g hg => (by cases hg), fun j x hx => (by simp at hx), fun i j b _ hj => (by simp at hj)⟩
theorem Sh.Own.cap (h : A.Own e w S v xs) : A.Own e w (fun b => S b ∧ b < w.heap.size) v xs := by
  obtain ⟨C, F, h1, h2, h3, h4⟩ := h
  exact ⟨C, fun j b => F j b ∧ b < w.heap.size, h1, fun g hg => ⟨h2 g hg, (h1.lt g hg).2⟩, fun j x hx => ⟨A.ocap (h3 j x hx).1, fun b hb => ⟨⟨((h3 j x hx).2 b hb.1).1, hb.2⟩, ((h3 j x hx).2 b hb.1).2⟩⟩, fun i j b hij hj h h' => h4 i j b hij hj h.1 h'.1⟩
theorem cntL_le (f g : α → Nat) (c : Nat) (hc : c ≤ 16) (h : ∀ x, f x ≤ c + 16 * g x) : ∀ xs : List α, cntL f xs ≤ 0 + 16 * wtL g xs
  | [] => by simp [cntL, wtL]
  | x :: l => by
    have h1 := cntL_le f g c hc h l
    have h2 := h x
    unfold cntL wtL
    omega
end

/-- A slice of them. -/
def Sh.sl {α : Type} (A : Sh α) (e : TypeId) (hb : A.base ≤ 16) : Sh (List α) where
  wd := 1
  zc := [.slice none 0 0]
  z := []
  base := 0
  rel w B cs xs := ∃ v, cs = [v] ∧ A.Row w B v xs
  own w S cs xs := ∃ v, cs = [v] ∧ A.Own e w S v xs
  wt := wtL A.wt
  cnt := cntL A.cnt
  mkd k xs := mkdL A.cnt A.mkd k xs
  zlen := rfl
  rlen := by rintro w B cs x ⟨v, rfl, _⟩; rfl
  rone := by
    rintro w B cs x ⟨v, rfl, h⟩ u hu
    obtain ⟨Ad, c, rfl, _⟩ := h
    simp at hu; rw [hu]; rfl
  rkeep := by rintro w w' B cs x ⟨v, rfl, h⟩ hk; exact ⟨v, rfl, h.keep hk⟩
  rmore := by rintro w B B' cs x ⟨v, rfl, h⟩ hk; exact ⟨v, rfl, h.more hk⟩
  omono := by rintro w S S' cs x ⟨v, rfl, h⟩ hk; exact ⟨v, rfl, h.mono hk⟩
  okeep := by rintro w w' S cs x ⟨v, rfl, h⟩ hk; exact ⟨v, rfl, h.keep hk⟩
  orel := by rintro w S cs x ⟨v, rfl, h⟩; exact ⟨v, rfl, h.row⟩
  ozero w S := ⟨_, rfl, Sh.Own.nil w S⟩
  ocap := by rintro w S cs x ⟨v, rfl, h⟩; exact ⟨v, rfl, h.cap⟩
  cntLe := cntL_le A.cnt A.wt A.base hb A.cntLe

end Go.Proofs.Ytkamlibfcakblaa
