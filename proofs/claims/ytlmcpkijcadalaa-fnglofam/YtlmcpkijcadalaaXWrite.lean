/- The model's l1Write. -/
import Derived.Test.YtlmcpkijcadalaaXWrReg
namespace Go.Proofs.Ytlmcpkijcadalaa
open Go.RowKit

/-- What l1Write does, in plain words. -/
def wst1 (wk : ByteArray) (wv : List Int) (st : List Item × Bool) (it : Item) : List Item × Bool := if (!st.2 && ltB wk it.key) = true then (st.1 ++ [⟨wk, wv⟩], true) else st
def wst2 (wk : ByteArray) (del : Bool) (wv : List Int) (st : List Item × Bool) (it : Item) : List Item × Bool := if it.key = wk then (if del = true then st else (st.1 ++ [⟨wk, wv⟩], true)) else (st.1 ++ [it], st.2)
def wst (wk : ByteArray) (del : Bool) (wv : List Int) (st : List Item × Bool) (it : Item) : List Item × Bool := wst2 wk del wv (wst1 wk wv st it) it
def wfold (wk : ByteArray) (del : Bool) (wv : List Int) (its : List Item) : List Item × Bool := its.foldl (wst wk del wv) ([], del)
def wAll (wk : ByteArray) (del : Bool) (wv : List Int) (its : List Item) : List Item := if (wfold wk del wv its).2 = true then (wfold wk del wv its).1 else (wfold wk del wv its).1 ++ [⟨wk, wv⟩]
theorem wst1_len (wk : ByteArray) (wv : List Int) (st : List Item × Bool) (it : Item) : (wst1 wk wv st it).1.length ≤ st.1.length + 1 := by
  unfold wst1; split <;> simp
theorem wst2_len (wk : ByteArray) (del : Bool) (wv : List Int) (st : List Item × Bool) (it : Item) : (wst2 wk del wv st it).1.length ≤ st.1.length + 1 := by
  unfold wst2; split
  · split <;> simp
  · simp
theorem wst_len (wk : ByteArray) (del : Bool) (wv : List Int) (st : List Item × Bool) (it : Item) : (wst wk del wv st it).1.length ≤ st.1.length + 2 := by
  have h1 := wst1_len wk wv st it
  have h2 := wst2_len wk del wv (wst1 wk wv st it) it
  unfold wst; omega
theorem wfold_next {its : List Item} {k : Nat} {it : Item} (h : its[k]? = some it) (wk : ByteArray) (del : Bool) (wv : List Int) : wfold wk del wv (its.take (k + 1)) = wst wk del wv (wfold wk del wv (its.take k)) it := by
  unfold wfold
  rw [← takeNext h, List.foldl_append]; rfl
theorem wfold_len (wk : ByteArray) (del : Bool) (wv : List Int) (its : List Item) : ∀ k, k ≤ its.length → (wfold wk del wv (its.take k)).1.length ≤ 2 * k := by
  intro k
  induction k with
  | zero => intro _; simp [wfold]
  | succ k ih =>
    intro hk
    have hk' : k < its.length := by omega
    rw [wfold_next (List.getElem?_eq_getElem hk')]
    have h1 := ih (by omega)
    have h2 := wst_len wk del wv (wfold wk del wv (its.take k)) its[k]
    omega

/-- Things whose blocks are all of S. -/
def ItemsIn (w : World) (S : Nat → Prop) (v : Value) (its : List Item) : Prop :=
  ∃ A c, v = .slice A its.length c ∧ its.length ≤ c ∧ c ≤ maxLen ∧ (0 < its.length → ∃ b off, A = some ⟨b, off, none⟩ ∧ b < w.heap.size ∧ S b ∧
    ∀ j it, its[j]? = some it → it.key.size ≤ maxLen ∧ w.cell? ⟨b, off + j * 2, none⟩ = some (.string it.key) ∧ ∃ u, w.cell? ⟨b, off + j * 2 + 1, none⟩ = some u ∧ IntsIn w S u it.val)
section
variable {w w' : World} {S S' : Nat → Prop} {v : Value} {its : List Item}
theorem ItemsIn.items (h : ItemsIn w S v its) : Items w w.heap.size v its := by
  obtain ⟨A, c, hv, h1, h2, hr⟩ := h
  refine ⟨A, c, hv, h1, h2, fun hn => ?_⟩
  obtain ⟨b, off, hA, hb, _, hc⟩ := hr hn
  refine ⟨b, off, hA, hb, fun j it hit => ?_⟩
  obtain ⟨hs, c1, u, c2, hu⟩ := hc j it hit
  exact ⟨hs, c1, u, c2, hu.ints⟩
theorem ItemsIn.keep (h : ItemsIn w S v its) (hk : ∀ b, b < w.heap.size → S b → w'.heap[b]? = w.heap[b]?) (hs : w.heap.size ≤ w'.heap.size) (hS : ∀ b, b < w.heap.size → S b → S' b) : ItemsIn w' S' v its := by
  obtain ⟨A, c, hv, h1, h2, hr⟩ := h
  refine ⟨A, c, hv, h1, h2, fun hn => ?_⟩
  obtain ⟨b, off, hA, hb, hSb, hc⟩ := hr hn
  refine ⟨b, off, hA, Nat.lt_of_lt_of_le hb hs, hS b hb hSb, fun j it hit => ?_⟩
  obtain ⟨hks, c1, u, c2, hu⟩ := hc j it hit
  exact ⟨hks, (World.cell?_of_block (hk b hb hSb)).trans c1, u, (World.cell?_of_block (hk b hb hSb)).trans c2, hu.keep hk hs hS⟩
theorem ItemsIn.at_ (h : ItemsIn w S v its) {k : Nat} (hk : k < its.length) : ∃ b off c it u, v = .slice (some ⟨b, off, none⟩) its.length c ∧ its[k]? = some it ∧ b < w.heap.size ∧ it.key.size ≤ maxLen ∧
    w.cell? ⟨b, off + k * 2, none⟩ = some (.string it.key) ∧ w.cell? ⟨b, off + k * 2 + 1, none⟩ = some u ∧ IntsIn w S u it.val := by
  obtain ⟨A, c, hv, _, _, hr⟩ := h
  obtain ⟨b, off, hA, hb, _, hc⟩ := hr (by omega)
  obtain ⟨hs, c1, u, c2, hu⟩ := hc k _ (List.getElem?_eq_getElem hk)
  exact ⟨b, off, c, _, u, by rw [hv, hA], List.getElem?_eq_getElem hk, hb, hs, c1, c2, hu⟩
theorem ItemsIn.form (h : ItemsIn w S v its) : ∃ A c, v = .slice A its.length c ∧ c ≤ maxLen ∧ its.length ≤ c := h.items.form
theorem Items.allIn {B : Nat} (h : Items w B v its) (hB : B ≤ w.heap.size) : ItemsIn w (· < B) v its := by
  obtain ⟨A, c, hv, h1, h2, hr⟩ := h
  refine ⟨A, c, hv, h1, h2, fun hn => ?_⟩
  obtain ⟨b, off, hA, hb, hc⟩ := hr hn
  refine ⟨b, off, hA, by omega, hb, fun j it hit => ?_⟩
  obtain ⟨hs, c1, u, c2, hu⟩ := hc j it hit
  exact ⟨hs, c1, u, c2, hu.toIn hB⟩
theorem OwnIt.toIn {lo : Nat} (h : OwnIt w lo S v its) (hlo : ∀ b, lo ≤ b → S' b) (hS : ∀ b, S b → S' b) : ItemsIn w S' v its := by
  rcases h.form with ⟨rfl, rfl⟩ | ⟨g, cap, rfl, hg, hgw, hn, hm⟩
  · exact ⟨none, 0, rfl, by simp, Nat.zero_le _, fun hp => absurd hp (by simp)⟩
  · obtain ⟨U, h1, h3⟩ := h
    refine ⟨_, cap, rfl, hn, hm, fun _ => ⟨g, 0, rfl, hgw, hlo g hg, fun j it hit => ?_⟩⟩
    have hj : j < its.length := (List.getElem?_eq_some_iff.1 hit).1
    obtain ⟨a, b⟩ := h3 j it hit
    refine ⟨a, ?_, U j, ?_, b.keep (fun _ _ _ => rfl) (Nat.le_refl _) fun q _ hq => hS q hq.1⟩
    · rw [Nat.zero_add, h1.cellAt (j * 2) (by omega), cellsU_at _ _ (by omega), cellU_key hit]
    · rw [Nat.zero_add, h1.cellAt (j * 2 + 1) (by omega), cellsU_at _ _ (by omega), cellU_val hit]
end

/-- The blocks that the numbers of a thing may lie in: those of before, and those behind the four boxes. -/
def inOut (S0 : Nat → Prop) (z b : Nat) : Prop := (b < z ∧ S0 b) ∨ z + 1 + 1 + 1 + 1 ≤ b
theorem inOut3 {S0 : Nat → Prop} {z : Nat} : ¬ inOut S0 z (z + 1 + 1 + 1) := by rintro (⟨h, _⟩ | h) <;> omega
theorem inOut2 {S0 : Nat → Prop} {z : Nat} : ¬ inOut S0 z (z + 1 + 1) := by rintro (⟨h, _⟩ | h) <;> omega
structure LpW (S0 : Nat → Prop) (w0 : World) (v : Value) (wk : ByteArray) (d : Bool) (wv vx : Value) (xs : List Item) (W : World) : Prop where
  hs : Held W w0.heap.size [v]
  hw : Held W (w0.heap.size + 1) [.string wk, .bool d, wv]
  hr : Held W (w0.heap.size + 1 + 1) [.slice none 0 0]
  hx : Held W (w0.heap.size + 1 + 1 + 1) [vx]
  own : OwnIt W (w0.heap.size + 1 + 1 + 1 + 1) (inOut S0 w0.heap.size) vx xs
  low : Below w0.heap.size w0 W
section
variable {S0 : Nat → Prop} {w0 W W1 W' : World} {v : Value} {wk : ByteArray} {d : Bool} {wv vx vn : Value} {xs ys : List Item}
theorem LpW.next (h : LpW S0 w0 v wk d wv vx xs W) (hn : Below W.heap.size W W') : LpW S0 w0 v wk d wv vx xs W' :=
  ⟨h.hs.below hn h.hs.1, h.hw.below hn h.hw.1, h.hr.below hn h.hr.1, h.hx.below hn h.hx.1, h.own.below hn, h.low.trans (hn.mono h.low.size)⟩
theorem LpW.size (h : LpW S0 w0 v wk d wv vx xs W) : w0.heap.size + 1 + 1 + 1 < W.heap.size := h.hx.1
theorem LpW.wrote (h : LpW S0 w0 v wk d wv vx xs W) (hg : W.grownBy W1 vx.ownBlock) (ho : OwnIt W1 (w0.heap.size + 1 + 1 + 1 + 1) (inOut S0 w0.heap.size) vn ys) : LpW S0 w0 v wk d wv vn ys (W1.setCell ⟨w0.heap.size + 1 + 1 + 1, 0, none⟩ vn) := by
  have hz := h.size
  have hb : Below (w0.heap.size + 1 + 1 + 1 + 1) W W1 := (Below.refl _ W).grown hg (by omega) fun g hh => (ownItLt h.own g hh).1
  exact ⟨(h.hs.below hb (by omega)).far (by show _ ≠ w0.heap.size + 1 + 1 + 1; omega) _, (h.hw.below hb (by omega)).far (by show _ ≠ w0.heap.size + 1 + 1 + 1; omega) _, (h.hr.below hb (by omega)).far (by show _ ≠ w0.heap.size + 1 + 1 + 1; omega) _,
    (h.hx.below hb (by omega)).set_ (i := 0) vn, ho.setCell inOut3 (by show w0.heap.size + 1 + 1 + 1 < _; omega) _, (h.low.trans (hb.mono (by omega))).setCell (by show _ ≤ w0.heap.size + 1 + 1 + 1; omega) _⟩
theorem LpW.keeps (_h : LpW S0 w0 v wk d wv vx xs W) {g : Nat} {cs : List Value} (hh : Held W g cs) (hg : W.grownBy W1 vx.ownBlock) (hne : ∀ b, vx.ownBlock = some b → b ≠ g) (hx : g ≠ w0.heap.size + 1 + 1 + 1) : Held (W1.setCell ⟨w0.heap.size + 1 + 1 + 1, 0, none⟩ vn) g cs := by
  have hk := hg.block g hh.1 (fun e => hne g e.symm rfl)
  have h1 : Held W1 g cs := ⟨Nat.lt_of_lt_of_le hh.1 hg.size, fun j => (World.frozen?_of_block (a := ⟨g, j, none⟩) hk).trans (hh.2.1 j), fun j u hu => (World.cell?_of_block (a := ⟨g, j, none⟩) hk).trans (hh.2.2 j u hu)⟩
  exact h1.far hx _
theorem LpW.xHeld (h : LpW S0 w0 v wk d wv vx xs W) (hg : W.grownBy W1 vx.ownBlock) : Held W1 (w0.heap.size + 1 + 1 + 1) [vx] :=
  h.hx.below (B := w0.heap.size + 1 + 1 + 1 + 1) ((Below.refl _ W).grown hg h.size fun g hh => (ownItLt h.own g hh).1) (by omega)
theorem LpW.fin (h : LpW S0 w0 v wk d wv vx xs W) : Held (W.setCell ⟨w0.heap.size + 1 + 1, 0, none⟩ vx) (w0.heap.size + 1 + 1) [vx] ∧ ItemsIn (W.setCell ⟨w0.heap.size + 1 + 1, 0, none⟩ vx) (fun q => S0 q ∨ w0.heap.size ≤ q) vx xs ∧
    Below w0.heap.size w0 (W.setCell ⟨w0.heap.size + 1 + 1, 0, none⟩ vx) :=
  ⟨h.hr.set_ (i := 0) vx, (h.own.setCell (p := ⟨w0.heap.size + 1 + 1, 0, none⟩) inOut2 (by show w0.heap.size + 1 + 1 < _; omega) vx).toIn (fun b hb => by omega) (fun b hb => hb.elim (fun h => Or.inl h.2) (fun h => Or.inr (by omega))), h.low.setCell (by show _ ≤ w0.heap.size + 1 + 1; omega) _⟩
theorem ownSlice {lo : Nat} {S : Nat → Prop} (h : OwnIt W lo S v xs) : ∃ A n c, v = .slice A n c := by
  obtain ⟨A, c, e, -, -⟩ := h.items.form
  exact ⟨A, _, c, e⟩
theorem LpW.wrW (h : LpW S0 w0 v wk d wv vx xs W) {wval : List Int} (hi : Ints w0 w0.heap.size wv wval) : WrW W (w0.heap.size + 1) (w0.heap.size + 1 + 1 + 1) (w0.heap.size + 1 + 1 + 1 + 1) (inOut S0 w0.heap.size) wk d wv vx wval xs W :=
  ⟨h.hw, h.hx, h.own, Below.refl _ _, (hi.below h.low).more h.low.size⟩
end

end Go.Proofs.Ytlmcpkijcadalaa
