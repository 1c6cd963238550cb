/- The model's l1Write. -/
import Derived.Test.YtkamlibfcakblaaXWrReg
namespace Go.Proofs.Ytkamlibfcakblaa
open Go.RowKit

/-- What l1Write does, in plain words. -/
def wst1 (wk : ByteArray) (wv : List Int) (st : List Item × Bool) (it : Item) : List Item × Bool := if (!st.2 && ltB wk it.key) = true then (st.1 ++ [⟨wk, wv⟩], true) else st
def wst2 (wk : ByteArray) (del : Bool) (wv : List Int) (st : List Item × Bool) (it : Item) : List Item × Bool := if it.key = wk then (if del = true then st else (st.1 ++ [⟨wk, wv⟩], true)) else (st.1 ++ [it], st.2)
def wst (wk : ByteArray) (del : Bool) (wv : List Int) (st : List Item × Bool) (it : Item) : List Item × Bool := wst2 wk del wv (wst1 wk wv st it) it
def wfold (wk : ByteArray) (del : Bool) (wv : List Int) (its : List Item) : List Item × Bool := its.foldl (wst wk del wv) ([], del)
def wAll (wk : ByteArray) (del : Bool) (wv : List Int) (its : List Item) : List Item := if (wfold wk del wv its).2 = true then (wfold wk del wv its).1 else (wfold wk del wv its).1 ++ [⟨wk, wv⟩]
theorem wst1_len (wk : ByteArray) (wv : List Int) (st : List Item × Bool) (it : Item) : (wst1 wk wv st it).1.length ≤ st.1.length + 1 := by
  unfold wst1; split <;> simp
theorem wst2_len (wk : ByteArray) (del : Bool) (wv : List Int) (st : List Item × Bool) (it : Item) : (wst2 wk del wv st it).1.length ≤ st.1.length + 1 := by
  unfold wst2; split
  · split <;> simp
  · simp
theorem wst_len (wk : ByteArray) (del : Bool) (wv : List Int) (st : List Item × Bool) (it : Item) : (wst wk del wv st it).1.length ≤ st.1.length + 2 := by
  have h1 := wst1_len wk wv st it
  have h2 := wst2_len wk del wv (wst1 wk wv st it) it
  unfold wst; omega
theorem wfold_next {its : List Item} {k : Nat} {it : Item} (h : its[k]? = some it) (wk : ByteArray) (del : Bool) (wv : List Int) : wfold wk del wv (its.take (k + 1)) = wst wk del wv (wfold wk del wv (its.take k)) it := by
  unfold wfold
  rw [← takeNext h, List.foldl_append]; rfl
theorem wfold_len (wk : ByteArray) (del : Bool) (wv : List Int) (its : List Item) : ∀ k, k ≤ its.length → (wfold wk del wv (its.take k)).1.length ≤ 2 * k := by
  intro k
  induction k with
  | zero => intro _; simp [wfold]
  | succ k ih =>
    intro hk
    have hk' : k < its.length := by omega
    rw [wfold_next (List.getElem?_eq_getElem hk')]
    have h1 := ih (by omega)
    have h2 := wst_len wk del wv (wfold wk del wv (its.take k)) its[k]
    omega

/-- Things whose blocks are all of S. -/
def ItemsIn (w : World) (S : Nat → Prop) (v : Value) (its : List Item) : Prop :=
  ∃ A c, v = .slice A its.length c ∧ its.length ≤ c ∧ c ≤ maxLen ∧ (0 < its.length → ∃ b off, A = some ⟨b, off, none⟩ ∧ b < w.heap.size ∧ S b ∧
    ∀ j it, its[j]? = some it → it.key.size ≤ maxLen ∧ w.cell? ⟨b, off + j * 2, none⟩ = some (.string it.key) ∧ ∃ u, w.cell? ⟨b, off + j * 2 + 1, none⟩ = some u ∧ IntsIn w S u it.val)
section
variable {w w' : World} {S S' : Nat → Prop} {v : Value} {its : List Item}
theorem ItemsIn.items (h : ItemsIn w S v its) : Items w w.heap.size v its := by
  obtain ⟨A, c, hv, h1, h2, hr⟩ := h
  refine ⟨A, c, hv, h1, h2, fun hn => ?_⟩
  obtain ⟨b, off, hA, hb, _, hc⟩ := hr hn
  refine ⟨b, off, hA, hb, fun j it hit => ?_⟩
  obtain ⟨hs, c1, u, c2, hu⟩ := hc j it hit
  exact ⟨hs, c1, u, c2, hu.ints⟩
theorem ItemsIn.keep (h : ItemsIn w S v its) (hk : ∀ b, b < w.heap.size → S b → w'.heap[b]? = w.heap[b]?) (hs : w.heap.size ≤ w'.heap.size) (hS : ∀ b, b < w.heap.size → S b → S' b) : ItemsIn w' S' v its := by
  obtain ⟨A, c, hv, h1, h2, hr⟩ := h
  refine ⟨A, c, hv, h1, h2, fun hn => ?_⟩
  obtain ⟨b, off, hA, hb, hSb, hc⟩ := hr hn
  refine ⟨b, off, hA, Nat.lt_of_lt_of_le hb hs, hS b hb hSb, fun j it hit => ?_⟩
  obtain ⟨hks, c1, u, c2, hu⟩ := hc j it hit
  exact ⟨hks, (World.cell?_of_block (hk b hb hSb)).trans c1, u, (World.cell?_of_block (hk b hb hSb)).trans c2, hu.keep hk hs hS⟩
theorem ItemsIn.at_ (h : ItemsIn w S v its) {k : Nat} (hk : k < its.length) : ∃ b off c it u, v = .slice (some ⟨b, off, none⟩) its.length c ∧ its[k]? = some it ∧ b < w.heap.size ∧ it.key.size ≤ maxLen ∧
    w.cell? ⟨b, off + k * 2, none⟩ = some (.string it.key) ∧ w.cell? ⟨b, off + k * 2 + 1, none⟩ = some u ∧ IntsIn w S u it.val := by
  obtain ⟨A, c, hv, _, _, hr⟩ := h
  obtain ⟨b, off, hA, hb, _, hc⟩ := hr (by omega)
  obtain ⟨hs, c1, u, c2, hu⟩ := hc k _ (List.getElem?_eq_getElem hk)
  exact ⟨b, off, c, _, u, by rw [hv, hA], List.getElem?_eq_getElem hk, hb, hs, c1, c2, hu⟩
theorem ItemsIn.form (h : ItemsIn w S v its) : ∃ A c, v = .slice A its.length c ∧ c ≤ maxLen ∧ its.length ≤ c := h.items.form
theorem Items.allIn {B : Nat} (h : Items w B v its) (hB : B ≤ w.heap.size) : ItemsIn w (· < B) v its := by
  obtain ⟨A, c, hv, h1, h2, hr⟩ := h
  refine ⟨A, c, hv, h1, h2, fun hn => ?_⟩
  obtain ⟨b, off, hA, hb, hc⟩ := hr hn
  refine ⟨b, off, hA, by omega, hb, fun j it hit => ?_⟩
  obtain ⟨hs, c1, u, c2, hu⟩ := hc j it hit
  exact ⟨hs, c1, u, c2, hu.toIn hB⟩
theorem OwnIt.toIn {lo : Nat} (h : OwnIt w lo S v its) (hlo : ∀ b, lo ≤ b → S' b) (hS : ∀ b, S b → S' b) : ItemsIn w S' v its := by
  rcases h.form with ⟨rfl, rfl⟩ | ⟨g, cap, rfl, hg, hgw, hn, hm⟩
  · exact ⟨none, 0, rfl, by simp, Nat.zero_le _, fun hp => absurd hp (by simp)⟩
  · obtain ⟨U, h1, h3⟩ := h
    refine ⟨_, cap, rfl, hn, hm, fun _ => ⟨g, 0, rfl, hgw, hlo g hg, fun j it hit => ?_⟩⟩
    have hj : j < its.length := (List.getElem?_eq_some_iff.1 hit).1
    obtain ⟨a, b⟩ := h3 j it hit
    refine ⟨a, ?_, U j, ?_, b.keep (fun _ _ _ => rfl) (Nat.le_refl _) fun q _ hq => hS q hq.1⟩
    · rw [Nat.zero_add, h1.cellAt (j * 2) (by omega), cellsU_at _ _ (by omega), cellU_key hit]
    · rw [Nat.zero_add, h1.cellAt (j * 2 + 1) (by omega), cellsU_at _ _ (by omega), cellU_val hit]
end

/-- The blocks that the numbers of a thing may lie in: those of before, and those behind the four boxes. -/
def inOut (S0 : Nat → Prop) (z b : Nat) : Prop := (b < z ∧ S0 b) ∨ z + 1 + 1 + 1 + 1 ≤ b
theorem inOut3 {S0 : Nat → Prop} {z : Nat} : ¬ inOut S0 z (z + 1 + 1 + 1) := by rintro (⟨h, _⟩ | h) <;> omega
theorem inOut2 {S0 : Nat → Prop} {z : Nat} : ¬ inOut S0 z (z + 1 + 1) := by rintro (⟨h, _⟩ | h) <;> omega
structure LpW (S0 : Nat → Prop) (w0 : World) (v : Value) (wk : ByteArray) (d : Bool) (wv vx : Value) (xs : List Item) (W : World) : Prop where
  hs : Held W w0.heap.size [v]
  hw : Held W (w0.heap.size + 1) [.string wk, .bool d, wv]
  hr : Held W (w0.heap.size + 1 + 1) [.slice none 0 0]
  hx : Held W (w0.heap.size + 1 + 1 + 1) [vx]
  own : OwnIt W (w0.heap.size + 1 + 1 + 1 + 1) (inOut S0 w0.heap.size) vx xs
  low : Below w0.heap.size w0 W
section
variable {S0 : Nat → Prop} {w0 W W1 W' : World} {v : Value} {wk : ByteArray} {d : Bool} {wv vx vn : Value} {xs ys : List Item}
theorem LpW.next (h : LpW S0 w0 v wk d wv vx xs W) (hn : Below W.heap.size W W') : LpW S0 w0 v wk d wv vx xs W' :=
  ⟨h.hs.below hn h.hs.1, h.hw.below hn h.hw.1, h.hr.below hn h.hr.1, h.hx.below hn h.hx.1, h.own.below hn, h.low.trans (hn.mono h.low.size)⟩
theorem LpW.size (h : LpW S0 w0 v wk d wv vx xs W) : w0.heap.size + 1 + 1 + 1 < W.heap.size := h.hx.1
theorem LpW.wrote (h : LpW S0 w0 v wk d wv vx xs W) (hg : W.grownBy W1 vx.ownBlock) (ho : OwnIt W1 (w0.heap.size + 1 + 1 + 1 + 1) (inOut S0 w0.heap.size) vn ys) : LpW S0 w0 v wk d wv vn ys (W1.setCell ⟨w0.heap.size + 1 + 1 + 1, 0, none⟩ vn) := by
  have hz := h.size
  have hb : Below (w0.heap.size + 1 + 1 + 1 + 1) W W1 := (Below.refl _ W).grown hg (by omega) fun g hh => (ownItLt h.own g hh).1
  exact ⟨(h.hs.below hb (by omega)).far (by show _ ≠ w0.heap.size + 1 + 1 + 1; omega) _, (h.hw.below hb (by omega)).far (by show _ ≠ w0.heap.size + 1 + 1 + 1; omega) _, (h.hr.below hb (by omega)).far (by show _ ≠ w0.heap.size + 1 + 1 + 1; omega) _,
    (h.hx.below hb (by omega)).set_ (i := 0) vn, ho.setCell inOut3 (by show w0.heap.size + 1 + 1 + 1 < _; omega) _, (h.low.trans (hb.mono (by omega))).setCell (by show _ ≤ w0.heap.size + 1 + 1 + 1; omega) _⟩
theorem LpW.keeps (_h : LpW S0 w0 v wk d wv vx xs W) {g : Nat} {cs : List Value} (hh : Held W g cs) (hg : W.grownBy W1 vx.ownBlock) (hne : ∀ b, vx.ownBlock = some b → b ≠ g) (hx : g ≠ w0.heap.size + 1 + 1 + 1) : Held (W1.setCell ⟨w0.heap.size + 1 + 1 + 1, 0, none⟩ vn) g cs := by
  have hk := hg.block g hh.1 (fun e => hne g e.symm rfl)
  have h1 : Held W1 g cs := ⟨Nat.lt_of_lt_of_le hh.1 hg.size, fun j => (World.frozen?_of_block (a := ⟨g, j, none⟩) hk).trans (hh.2.1 j), fun j u hu => (World.cell?_of_block (a := ⟨g, j, none⟩) hk).trans (hh.2.2 j u hu)⟩
  exact h1.far hx _
theorem LpW.xHeld (h : LpW S0 w0 v wk d wv vx xs W) (hg : W.grownBy W1 vx.ownBlock) : Held W1 (w0.heap.size + 1 + 1 + 1) [vx] :=
  h.hx.below (B := w0.heap.size + 1 + 1 + 1 + 1) ((Below.refl _ W).grown hg h.size fun g hh => (ownItLt h.own g hh).1) (by omega)
theorem LpW.fin (h : LpW S0 w0 v wk d wv vx xs W) : Held (W.setCell ⟨w0.heap.size + 1 + 1, 0, none⟩ vx) (w0.heap.size + 1 + 1) [vx] ∧ ItemsIn (W.setCell ⟨w0.heap.size + 1 + 1, 0, none⟩ vx) (fun q => S0 q ∨ w0.heap.size ≤ q) vx xs ∧
    Below w0.heap.size w0 (W.setCell ⟨w0.heap.size + 1 + 1, 0, none⟩ vx) :=
  ⟨h.hr.set_ (i := 0) vx, (h.own.setCell (p := ⟨w0.heap.size + 1 + 1, 0, none⟩) inOut2 (by show w0.heap.size + 1 + 1 < _; omega) vx).toIn (fun b hb => by omega) (fun b hb => hb.elim (fun h => Or.inl h.2) (fun h => Or.inr (by omega))), h.low.setCell (by show _ ≤ w0.heap.size + 1 + 1; omega) _⟩
theorem ownSlice {lo : Nat} {S : Nat → Prop} (h : OwnIt W lo S v xs) : ∃ A n c, v = .slice A n c := by
  obtain ⟨A, c, e, -, -⟩ := h.items.form
  exact ⟨A, _, c, e⟩
theorem LpW.wrW (h : LpW S0 w0 v wk d wv vx xs W) {wval : List Int} (hi : Ints w0 w0.heap.size wv wval) : WrW W (w0.heap.size + 1) (w0.heap.size + 1 + 1 + 1) (w0.heap.size + 1 + 1 + 1 + 1) (inOut S0 w0.heap.size) wk d wv vx wval xs W :=
  ⟨h.hw, h.hx, h.own, Below.refl _ _, (hi.below h.low).more h.low.size⟩
end

set_option maxRecDepth 100000 in
set_option maxHeartbeats 4000000 in
theorem l1Write_any (S0 : Nat → Prop) (w : World) (v : Value) (its : List Item) (hv : ItemsIn w S0 v its) (wk : ByteArray) (d : Bool) (Aw : Option Addr) (cw : Nat) (wval : List Int) (hw : Ints w w.heap.size (.slice Aw wval.length cw) wval) (hks : wk.size ≤ maxLen)
    (hwl : wval.length ≤ 4194304) (hl : its.length ≤ 1000000) :
    Calls Try.prog 122 #[.agg #[v], .agg #[.string wk, .bool d, .slice Aw wval.length cw]] w fun e w' => ∃ u, e = .returned (.agg #[u]) ∧ ItemsIn w' (fun q => S0 q ∨ w.heap.size ≤ q) u (wAll wk d wval its) ∧ Below w.heap.size w w' := by
  obtain ⟨A, c, rfl, hc2, hc1⟩ := hv.form
  unfold maxLen at hc2
  have H0 := Lib.hid (show LpW S0 w (.slice A its.length c) wk d (.slice Aw wval.length cw) (.slice none 0 0) [] ((((w.alloc (.cells #[.slice A its.length c] 54)).alloc (.cells #[.string wk, .bool d, .slice Aw wval.length cw] 86)).alloc (.cells #[.slice none 0 0] 54)).alloc (.cells #[.slice none 0 0] 54)) by
    have z1 : (w.alloc (.cells #[.slice A its.length c] 54)).heap.size = w.heap.size + 1 := by simp
    have z2 : ((w.alloc (.cells #[.slice A its.length c] 54)).alloc (.cells #[.string wk, .bool d, .slice Aw wval.length cw] 86)).heap.size = w.heap.size + 1 + 1 := by simp
    have z3 : (((w.alloc (.cells #[.slice A its.length c] 54)).alloc (.cells #[.string wk, .bool d, .slice Aw wval.length cw] 86)).alloc (.cells #[.slice none 0 0] 54)).heap.size = w.heap.size + 1 + 1 + 1 := by simp
    have a1 := Held.new w #[.slice A its.length c] 54
    have a2 := Held.new (w.alloc (.cells #[.slice A its.length c] 54)) #[.string wk, .bool d, .slice Aw wval.length cw] 86
    have a3 := Held.new ((w.alloc (.cells #[.slice A its.length c] 54)).alloc (.cells #[.string wk, .bool d, .slice Aw wval.length cw] 86)) #[.slice none 0 0] 54
    have a4 := Held.new (((w.alloc (.cells #[.slice A its.length c] 54)).alloc (.cells #[.string wk, .bool d, .slice Aw wval.length cw] 86)).alloc (.cells #[.slice none 0 0] 54)) #[.slice none 0 0] 54
    rw [z1] at a2
    rw [z2] at a3
    rw [z3] at a4
    exact ⟨((a1.after _).after _).after _, (a2.after _).after _, a3.after _, a4, OwnIt.nil _ _ _, (belowThree _ _ _ _).alloc (by simp; omega) _⟩)
  have HV := Lib.hid hv
  have HI := Lib.hid hw
  clear hv hw
  go_enter Try.func122, Try.ntmps122
  go_wp2
  go_loopw [6, 7] (fun dn i wr => ∃ (k : Nat) (vx : Value), k ≤ its.length ∧ i = .int .i64 k ∧ dn = .bool (wfold wk d wval (its.take k)).2 ∧ LpW S0 w (.slice A its.length c) wk d (.slice Aw wval.length cw) vx (wfold wk d wval (its.take k)).1 wr) (fun _ i _ => its.length - (intOf i).toNat)
  case atStart => exact ⟨0, _, Nat.zero_le _, rfl, by simp [wfold], by simpa [wfold] using H0.out⟩
  case round =>
    clear H0
    obtain ⟨k, vx, hk, rfl, rfl, hlp⟩ := hrel
    have HP := Lib.hid hlp
    have hz := hlp.size
    have c1 := hlp.hs.of 0 _ rfl
    have hxl := wfold_len wk d wval its k hk
    clear hlp
    by_cases hlt : k < its.length
    · obtain ⟨b, off, e, it, ux, e1, hit, hbB, hki, ck, cu, hx⟩ := HV.out.at_ (k := k) hlt
      obtain ⟨Ax, cx, hxf, -⟩ := id hx
      subst hxf
      injection e1 with e1a e1b e1c
      subst e1a
      clear e1b e1c
      have ck := (HP.out.low.cell (p := ⟨b, off + k * 2, none⟩) hbB).trans ck
      have cu := (HP.out.low.cell (p := ⟨b, off + k * 2 + 1, none⟩) hbB).trans cu
      have HIt := Lib.hid hit
      have HXi := Lib.hid (hx.keep (w' := wr) (S' := fun b => b < w.heap.size ∧ S0 b) (fun b hb _ => HP.out.low.block b hb) HP.out.low.size fun b hb h => ⟨hb, h⟩)
      have hnx := Lib.hid (wfold_next hit wk d wval)
      clear hit hx HV
      have HPn := Lib.hid (HP.out.next (belowOne wr (.cells #[.string it.key, .slice Ax it.val.length cx] 104)))
      have HPr := Lib.hid HP.out.low
      have HBx := Lib.hid (Held.new wr #[.string it.key, .slice Ax it.val.length cx] 104)
      have d0 := HP.out.hw.of 0 _ rfl
      have d1 := HP.out.hw.of 1 _ rfl
      have d3 := HP.out.hx.of 0 _ rfl
      have g0 := HPn.out.hw.of 0 _ rfl
      have g1 := HPn.out.hw.of 1 _ rfl
      have g3 := HPn.out.hx.of 0 _ rfl
      have HOl := Lib.hid (ownItLt HP.out.own)
      clear HP
      generalize hst : wfold wk d wval (its.take k) = st at *
      obtain ⟨xs, dn⟩ := st
      clear hst
      have hxl' : xs.length ≤ 2 * k := hxl
      clear hxl
      have zi : (wr.alloc (.cells #[.string it.key, .slice Ax it.val.length cx] 104)).heap.size = wr.heap.size + 1 := by simp
      have HPlow := Lib.hid (show Below w.heap.size w wr from HPr.out)
      cases dn
      · rcases hlo : ltB wk it.key
        · have HLo := Lib.hid hlo
          unfold ltB at hlo
          by_cases hkey : it.key = wk
          · have hq : (it.key.toList == wk.toList) = true := by rw [eq_toList]; simpa using hkey
            have HKey := Lib.hid hkey
            clear hkey
            cases d
            · go_wp2
              refine wrReg59 _ _ _ (w.heap.size + 1) (w.heap.size + 1 + 1 + 1) (w.heap.size + 1 + 1 + 1 + 1) (inOut S0 w.heap.size) wk _ Aw cw wval vx xs (HPn.out.wrW HI.out) (by omega) (by have := HPn.out.size; omega) (fun q hq => Or.inr (by have := HPn.out.size; omega)) hks hwl (by first | omega | (simp; omega)) ?_
              intro U5 v5 W5 hg5 ho5 hx5
              have HP5 := Lib.hid (HPn.out.wrote hg5 ho5)
              clear hg5 ho5 hx5
              generalize W5.setCell ⟨w.heap.size + 1 + 1 + 1, 0, none⟩ v5 = W6 at *
              go_wp2
              have hw : wst wk false wval (xs, false) it = (xs ++ [⟨wk, wval⟩], true) := by
                have h1 : wst1 wk wval (xs, false) it = (xs, false) := by simp [wst1, HLo.out]
                unfold wst
                rw [h1]
                simp [wst2, HKey.out]
              have hn := hnx.out
              rw [hw] at hn
              exact ⟨⟨k + 1, v5, by omega, by simp, by rw [hn], by rw [hn]; exact HP5.out⟩, by simp [intOf]; omega⟩
            · go_wp2
              have hw : wst wk true wval (xs, false) it = (xs, false) := by
                have h1 : wst1 wk wval (xs, false) it = (xs, false) := by simp [wst1, HLo.out]
                unfold wst
                rw [h1]
                simp [wst2, HKey.out]
              have hn := hnx.out
              rw [hw] at hn
              exact ⟨⟨k + 1, vx, by omega, by simp, by rw [hn], by rw [hn]; exact HPn.out⟩, by simp [intOf]; omega⟩
          · have hq : (it.key.toList == wk.toList) = false := by rw [eq_toList]; simpa using hkey
            have HKey := Lib.hid hkey
            clear hkey
            have HPs := Lib.hid (HPn.out.next (belowOne (wr.alloc (.cells #[.string it.key, .slice Ax it.val.length cx] 104)) (.cells #[.string it.key, .slice Ax it.val.length cx] 104)))
            have hsrc := Held.new (wr.alloc (.cells #[.string it.key, .slice Ax it.val.length cx] 104)) #[.string it.key, .slice Ax it.val.length cx] 104
            rw [zi] at hsrc
            have HSrc := Lib.hid hsrc
            clear hsrc
            have zs := HPn.out.size
            have HU := Lib.hid (show IntsIn ((wr.alloc (.cells #[.string it.key, .slice Ax it.val.length cx] 104)).alloc (.cells #[.string it.key, .slice Ax it.val.length cx] 104)) (fun b => inOut S0 w.heap.size b ∧ Value.ownBlock vx ≠ some b) (.slice Ax it.val.length cx) it.val from
              HXi.out.keep (fun b _ hb => (HPs.out.low.block b hb.1).trans ((HPlow.out).block b hb.1).symm) (by have := HPs.out.low.size; have := (HPlow.out).size; simp; omega) fun b _ hb => ⟨Or.inl hb, fun hh => by have := (ownItLt HPs.out.own b hh).1; have := hb.1; omega⟩)
            go_wp2_with (at_builtin; refine wpl_append_item rfl _ _ rfl (w.heap.size + 1 + 1 + 1 + 1) (inOut S0 w.heap.size) vx xs rfl HPs.out.own it Ax it.val.length cx _ rfl hki HU.out HSrc.out (by first | omega | (simp; omega)) (by simp; omega) ?_; intro v7 W7 ho7 hg7; have HO7 := Lib.hid ho7; have HG7 := Lib.hid hg7; have x7 := (HPs.out.xHeld hg7).of 0 _ rfl; have f7 := (HPs.out.xHeld hg7).2.1 0; clear ho7 hg7; obtain ⟨A7, n7, c7, e7⟩ := ownSlice HO7.out; subst e7)
            have hw : wst wk d wval (xs, false) it = (xs ++ [it], false) := by
              have h1 : wst1 wk wval (xs, false) it = (xs, false) := by simp [wst1, HLo.out]
              unfold wst
              rw [h1]
              simp [wst2, HKey.out]
            have hn := hnx.out
            rw [hw] at hn
            exact ⟨⟨k + 1, _, by omega, by simp, by rw [hn], by rw [hn]; exact HPs.out.wrote HG7.out HO7.out⟩, by simp [intOf]; omega⟩
        · have HLo := Lib.hid hlo
          unfold ltB at hlo
          go_wp2
          refine wrReg33 _ _ _ (w.heap.size + 1) (w.heap.size + 1 + 1 + 1) (w.heap.size + 1 + 1 + 1 + 1) (inOut S0 w.heap.size) wk d Aw cw wval vx xs (HPn.out.wrW HI.out) (by omega) (by rw [zi]; omega) (fun q hq => Or.inr (by rw [zi] at hq; omega)) hks hwl (by omega) ?_
          intro U v1 W1 hg ho hx1
          have HP1 := Lib.hid (HPn.out.wrote hg ho)
          have HB1 := Lib.hid (HPn.out.keeps (vn := v1) HBx.out hg (fun b hb => by have := (HOl.out b hb).2; omega) (by omega))
          have hzz : wr.heap.size < (W1.setCell ⟨w.heap.size + 1 + 1 + 1, 0, none⟩ v1).heap.size := HB1.out.1
          clear hg ho hx1
          generalize W1.setCell ⟨w.heap.size + 1 + 1 + 1, 0, none⟩ v1 = W2 at *
          have d0' := HP1.out.hw.of 0 _ rfl
          have d1' := HP1.out.hw.of 1 _ rfl
          have d3' := HP1.out.hx.of 0 _ rfl
          have b0' := HB1.out.of 0 _ rfl
          have b1' := HB1.out.of 1 _ rfl
          by_cases hkey : it.key = wk
          · have hq : (it.key.toList == wk.toList) = true := by rw [eq_toList]; simpa using hkey
            have HKey := Lib.hid hkey
            clear hkey
            cases d
            · go_wp2
              refine wrReg59 _ _ _ (w.heap.size + 1) (w.heap.size + 1 + 1 + 1) (w.heap.size + 1 + 1 + 1 + 1) (inOut S0 w.heap.size) wk _ Aw cw wval v1 (xs ++ [⟨wk, wval⟩]) (HP1.out.wrW HI.out) (by omega) (by have := HP1.out.size; omega) (fun q hq => Or.inr (by have := HP1.out.size; omega)) hks hwl (by first | omega | (simp; omega)) ?_
              intro U5 v5 W5 hg5 ho5 hx5
              have HP5 := Lib.hid (HP1.out.wrote hg5 ho5)
              clear hg5 ho5 hx5
              generalize W5.setCell ⟨w.heap.size + 1 + 1 + 1, 0, none⟩ v5 = W6 at *
              go_wp2
              have hw : wst wk false wval (xs, false) it = ((xs ++ [⟨wk, wval⟩]) ++ [⟨wk, wval⟩], true) := by
                have h1 : wst1 wk wval (xs, false) it = ((xs ++ [⟨wk, wval⟩]), true) := by simp [wst1, HLo.out]
                unfold wst
                rw [h1]
                simp [wst2, HKey.out]
              have hn := hnx.out
              rw [hw] at hn
              exact ⟨⟨k + 1, v5, by omega, by simp, by rw [hn], by rw [hn]; exact HP5.out⟩, by simp [intOf]; omega⟩
            · go_wp2
              have hw : wst wk true wval (xs, false) it = ((xs ++ [⟨wk, wval⟩]), true) := by
                have h1 : wst1 wk wval (xs, false) it = ((xs ++ [⟨wk, wval⟩]), true) := by simp [wst1, HLo.out]
                unfold wst
                rw [h1]
                simp [wst2, HKey.out]
              have hn := hnx.out
              rw [hw] at hn
              exact ⟨⟨k + 1, v1, by omega, by simp, by rw [hn], by rw [hn]; exact HP1.out⟩, by simp [intOf]; omega⟩
          · have hq : (it.key.toList == wk.toList) = false := by rw [eq_toList]; simpa using hkey
            have HKey := Lib.hid hkey
            clear hkey
            have HPs := Lib.hid (HP1.out.next (belowOne W2 (.cells #[.string it.key, .slice Ax it.val.length cx] 104)))
            have hsrc := Held.new W2 #[.string it.key, .slice Ax it.val.length cx] 104
            have HSrc := Lib.hid hsrc
            clear hsrc
            have zs := HP1.out.size
            have HU := Lib.hid (show IntsIn (W2.alloc (.cells #[.string it.key, .slice Ax it.val.length cx] 104)) (fun b => inOut S0 w.heap.size b ∧ Value.ownBlock v1 ≠ some b) (.slice Ax it.val.length cx) it.val from
              HXi.out.keep (fun b _ hb => (HPs.out.low.block b hb.1).trans ((HPlow.out).block b hb.1).symm) (by have := HPs.out.low.size; have := (HPlow.out).size; have := hzz; simp; omega) fun b _ hb => ⟨Or.inl hb, fun hh => by have := (ownItLt HPs.out.own b hh).1; have := hb.1; omega⟩)
            go_wp2_with (at_builtin; refine wpl_append_item rfl _ _ rfl (w.heap.size + 1 + 1 + 1 + 1) (inOut S0 w.heap.size) v1 (xs ++ [⟨wk, wval⟩]) rfl HPs.out.own it Ax it.val.length cx _ rfl hki HU.out HSrc.out (by first | omega | (simp; omega)) (by simp; omega) ?_; intro v7 W7 ho7 hg7; have HO7 := Lib.hid ho7; have HG7 := Lib.hid hg7; have x7 := (HPs.out.xHeld hg7).of 0 _ rfl; have f7 := (HPs.out.xHeld hg7).2.1 0; clear ho7 hg7; obtain ⟨A7, n7, c7, e7⟩ := ownSlice HO7.out; subst e7)
            have hw : wst wk d wval (xs, false) it = ((xs ++ [⟨wk, wval⟩]) ++ [it], true) := by
              have h1 : wst1 wk wval (xs, false) it = ((xs ++ [⟨wk, wval⟩]), true) := by simp [wst1, HLo.out]
              unfold wst
              rw [h1]
              simp [wst2, HKey.out]
            have hn := hnx.out
            rw [hw] at hn
            exact ⟨⟨k + 1, _, by omega, by simp, by rw [hn], by rw [hn]; exact HPs.out.wrote HG7.out HO7.out⟩, by simp [intOf]; omega⟩
      · by_cases hkey : it.key = wk
        · have hq : (it.key.toList == wk.toList) = true := by rw [eq_toList]; simpa using hkey
          have HKey := Lib.hid hkey
          clear hkey
          cases d
          · go_wp2
            refine wrReg59 _ _ _ (w.heap.size + 1) (w.heap.size + 1 + 1 + 1) (w.heap.size + 1 + 1 + 1 + 1) (inOut S0 w.heap.size) wk _ Aw cw wval vx xs (HPn.out.wrW HI.out) (by omega) (by have := HPn.out.size; omega) (fun q hq => Or.inr (by have := HPn.out.size; omega)) hks hwl (by first | omega | (simp; omega)) ?_
            intro U5 v5 W5 hg5 ho5 hx5
            have HP5 := Lib.hid (HPn.out.wrote hg5 ho5)
            clear hg5 ho5 hx5
            generalize W5.setCell ⟨w.heap.size + 1 + 1 + 1, 0, none⟩ v5 = W6 at *
            go_wp2
            have hw : wst wk false wval (xs, true) it = (xs ++ [⟨wk, wval⟩], true) := by
              have h1 : wst1 wk wval (xs, true) it = (xs, true) := by simp [wst1, ltB]
              unfold wst
              rw [h1]
              simp [wst2, HKey.out]
            have hn := hnx.out
            rw [hw] at hn
            exact ⟨⟨k + 1, v5, by omega, by simp, by rw [hn], by rw [hn]; exact HP5.out⟩, by simp [intOf]; omega⟩
          · go_wp2
            have hw : wst wk true wval (xs, true) it = (xs, true) := by
              have h1 : wst1 wk wval (xs, true) it = (xs, true) := by simp [wst1, ltB]
              unfold wst
              rw [h1]
              simp [wst2, HKey.out]
            have hn := hnx.out
            rw [hw] at hn
            exact ⟨⟨k + 1, vx, by omega, by simp, by rw [hn], by rw [hn]; exact HPn.out⟩, by simp [intOf]; omega⟩
        · have hq : (it.key.toList == wk.toList) = false := by rw [eq_toList]; simpa using hkey
          have HKey := Lib.hid hkey
          clear hkey
          have HPs := Lib.hid (HPn.out.next (belowOne (wr.alloc (.cells #[.string it.key, .slice Ax it.val.length cx] 104)) (.cells #[.string it.key, .slice Ax it.val.length cx] 104)))
          have hsrc := Held.new (wr.alloc (.cells #[.string it.key, .slice Ax it.val.length cx] 104)) #[.string it.key, .slice Ax it.val.length cx] 104
          rw [zi] at hsrc
          have HSrc := Lib.hid hsrc
          clear hsrc
          have zs := HPn.out.size
          have HU := Lib.hid (show IntsIn ((wr.alloc (.cells #[.string it.key, .slice Ax it.val.length cx] 104)).alloc (.cells #[.string it.key, .slice Ax it.val.length cx] 104)) (fun b => inOut S0 w.heap.size b ∧ Value.ownBlock vx ≠ some b) (.slice Ax it.val.length cx) it.val from
            HXi.out.keep (fun b _ hb => (HPs.out.low.block b hb.1).trans ((HPlow.out).block b hb.1).symm) (by have := HPs.out.low.size; have := (HPlow.out).size; simp; omega) fun b _ hb => ⟨Or.inl hb, fun hh => by have := (ownItLt HPs.out.own b hh).1; have := hb.1; omega⟩)
          go_wp2_with (at_builtin; refine wpl_append_item rfl _ _ rfl (w.heap.size + 1 + 1 + 1 + 1) (inOut S0 w.heap.size) vx xs rfl HPs.out.own it Ax it.val.length cx _ rfl hki HU.out HSrc.out (by first | omega | (simp; omega)) (by simp; omega) ?_; intro v7 W7 ho7 hg7; have HO7 := Lib.hid ho7; have HG7 := Lib.hid hg7; have x7 := (HPs.out.xHeld hg7).of 0 _ rfl; have f7 := (HPs.out.xHeld hg7).2.1 0; clear ho7 hg7; obtain ⟨A7, n7, c7, e7⟩ := ownSlice HO7.out; subst e7)
          have hw : wst wk d wval (xs, true) it = (xs ++ [it], true) := by
            have h1 : wst1 wk wval (xs, true) it = (xs, true) := by simp [wst1, ltB]
            unfold wst
            rw [h1]
            simp [wst2, HKey.out]
          have hn := hnx.out
          rw [hw] at hn
          exact ⟨⟨k + 1, _, by omega, by simp, by rw [hn], by rw [hn]; exact HPs.out.wrote HG7.out HO7.out⟩, by simp [intOf]; omega⟩
    · have hke : k = its.length := by omega
      subst hke
      have d2 := HP.out.hr.of 0 _ rfl
      have d2f := HP.out.hr.2.1 0
      have d3 := HP.out.hx.of 0 _ rfl
      generalize hst : wfold wk d wval (its.take its.length) = st at *
      rw [List.take_length] at hst
      obtain ⟨xs, dn⟩ := st
      have hxl' : xs.length ≤ 2 * its.length := hxl
      clear hxl
      have HSt := Lib.hid hst
      clear hst
      obtain ⟨A8, n8, c8, e8⟩ := ownSlice HP.out.own
      subst e8
      cases dn
      · go_wp2
        refine wrReg73 _ _ _ (w.heap.size + 1) (w.heap.size + 1 + 1 + 1) (w.heap.size + 1 + 1 + 1 + 1) (inOut S0 w.heap.size) wk _ Aw cw wval _ xs (HP.out.wrW HI.out) (by omega) (by omega) (fun q hq => Or.inr (by omega)) hks hwl (by omega) ?_
        intro U5 v5 W5 hg5 ho5 hx5
        have HP5 := Lib.hid (HP.out.wrote hg5 ho5)
        clear hg5 ho5 hx5 d2 d2f d3
        generalize W5.setCell ⟨w.heap.size + 1 + 1 + 1, 0, none⟩ v5 = W6 at *
        obtain ⟨A9, n9, c9, e9⟩ := ownSlice HP5.out.own
        subst e9
        have d2 := HP5.out.hr.of 0 _ rfl
        have d2f := HP5.out.hr.2.1 0
        have d3 := HP5.out.hx.of 0 _ rfl
        go_wp2
        have q0 := HP5.out.fin.1.of 0 _ rfl
        exact bodyPost_ret (v := .agg #[.slice A9 n9 c9]) (by simp [results, Try.results122, go_sem, q0]) rfl ⟨_, rfl, by unfold wAll; rw [HSt.out]; exact HP5.out.fin.2.1, HP5.out.fin.2.2⟩
      · go_wp2
        have q0 := HP.out.fin.1.of 0 _ rfl
        exact bodyPost_ret (v := .agg #[.slice A8 n8 c8]) (by simp [results, Try.results122, go_sem, q0]) rfl ⟨_, rfl, by unfold wAll; rw [HSt.out]; exact HP.out.fin.2.1, HP.out.fin.2.2⟩

end Go.Proofs.Ytkamlibfcakblaa
