/- A play, one thing behind the other: in plain words, and by laws.jaGlo. -/
import Derived.Test.YtlmcpkijcadalaaXGloPlain
import Derived.Test.YtlmcpkijcadalaaXOps
namespace Go.Proofs.Ytlmcpkijcadalaa
open Go.RowKit

/-- What all places keep behind the first k things that are done, and which of these were so. -/
def playTo (os : List Op) : Nat → List Sto × List Bool
  | 0 => (newG, [])
  | k + 1 => match os[k]? with
    | none => playTo os k
    | some o => (if (gloDo (playTo os k).1 k o).2 = true then (gloDo (playTo os k).1 k o).1 else (playTo os k).1, (playTo os k).2 ++ [(gloDo (playTo os k).1 k o).2])
theorem playTo_step {os : List Op} {k : Nat} {o : Op} (h : os[k]? = some o) : playTo os (k + 1) = (if (gloDo (playTo os k).1 k o).2 = true then (gloDo (playTo os k).1 k o).1 else (playTo os k).1, (playTo os k).2 ++ [(gloDo (playTo os k).1 k o).2]) := by
  simp only [playTo, h]
theorem playTo_yes {os : List Op} {k : Nat} {o : Op} (h : os[k]? = some o) (hd : (gloDo (playTo os k).1 k o).2 = true) : (playTo os (k + 1)).1 = (gloDo (playTo os k).1 k o).1 := by
  rw [playTo_step h, if_pos hd]
theorem playTo_no {os : List Op} {k : Nat} {o : Op} (h : os[k]? = some o) (hd : (gloDo (playTo os k).1 k o).2 = false) : (playTo os (k + 1)).1 = (playTo os k).1 := by
  rw [playTo_step h, if_neg (by rw [hd]; decide)]
theorem playTo_done {os : List Op} {k : Nat} {o : Op} (h : os[k]? = some o) : (playTo os (k + 1)).2 = (playTo os k).2 ++ [(gloDo (playTo os k).1 k o).2] := by
  rw [playTo_step h]
theorem playTo_len (os : List Op) : ∀ k, k ≤ os.length → (playTo os k).2.length = k
  | 0, _ => rfl
  | k + 1, h => by
    rw [playTo_done (List.getElem?_eq_getElem (show k < os.length by omega)), List.length_append, playTo_len os k (by omega)]; rfl
theorem playTo_at (os : List Op) : ∀ n, n ≤ os.length → ∀ k o, k < n → os[k]? = some o → (playTo os n).2[k]? = some (gloDo (playTo os k).1 k o).2
  | 0, _, k, _, h, _ => absurd h (by omega)
  | n + 1, hn, k, o, hk, ho => by
    have hx := List.getElem?_eq_getElem (show n < os.length by omega)
    rw [playTo_done hx]
    rcases Nat.lt_or_ge k n with hlt | hge
    · rw [List.getElem?_append_left (by rw [playTo_len os n (by omega)]; exact hlt)]
      exact playTo_at os n (by omega) k o hlt ho
    · have : k = n := by omega
      subst this
      rw [hx] at ho
      injection ho with ho
      rw [List.getElem?_append_right (by rw [playTo_len os k (by omega)]; omega), playTo_len os k (by omega), Nat.sub_self, ho]; rfl
theorem newG_ok : gloB newG = true := by decide
/-- Behind each thing all places keep what they may, and not more than were done. -/
theorem play_inv {os : List Op} (h : ∀ o ∈ os, opB o = true) (hl : os.length ≤ 29) : ∀ k, k ≤ os.length → ∃ a b c, (playTo os k).1 = [⟨a⟩, ⟨b⟩, ⟨c⟩] ∧ gloB [⟨a⟩, ⟨b⟩, ⟨c⟩] = true ∧ a.length ≤ k ∧ b.length ≤ k ∧ c.length ≤ k
  | 0, _ => ⟨[], [], [], rfl, newG_ok, Nat.le_refl _, Nat.le_refl _, Nat.le_refl _⟩
  | k + 1, hk => by
    obtain ⟨a, b, c, e, hg, h1, h2, h3⟩ := play_inv h hl k (by omega)
    have hx := List.getElem?_eq_getElem (show k < os.length by omega)
    have ho := h _ (List.mem_of_getElem? hx)
    have ht : inB (k : Int) 0 29 = true := inB_yes (by omega) (by omega)
    have hd := gloDo_three (tx := (k : Int)) hg ho ht
    rw [← e] at hd
    cases hm : gloMay a b c (k : Int) os[k] with
    | true =>
      rw [hm, if_pos rfl] at hd
      obtain ⟨s1, s2, s3, s4⟩ := glo_step (k := k) hg ho ht h1 h2 h3 (by omega)
      exact ⟨_, _, _, by rw [playTo_yes hx (by rw [hd]), hd], s1, s2, s3, s4⟩
    | false =>
      rw [hm, if_neg (by decide)] at hd
      exact ⟨a, b, c, by rw [playTo_no hx (by rw [hd]), e], hg, by omega, by omega, by omega⟩
theorem play_ok {os : List Op} (h : ∀ o ∈ os, opB o = true) (hl : os.length ≤ 29) {k : Nat} (hk : k ≤ os.length) : gloB (playTo os k).1 = true := by
  obtain ⟨a, b, c, e, hg, -⟩ := play_inv h hl k hk
  rw [e]; exact hg

/-- While laws.jaGlo plays. -/
def JaI (w : World) (os : List Op) (k : Nat) (a b : Value) (W : World) : Prop :=
  ∃ S1 S2, stoSh.Own 56 W S1 a (playTo os k).1 ∧ Sh.bool.Own 4 W S2 b (playTo os k).2 ∧ (∀ i, S1 i → w.heap.size ≤ i ∧ i < W.heap.size) ∧ (∀ i, S2 i → w.heap.size ≤ i ∧ i < W.heap.size) ∧ (∀ i, S1 i → ¬ S2 i) ∧ Below w.heap.size w W
/-- What laws.jaGlo answers. -/
def JaMade (os : List Op) (w : World) (e : Ending) (w' : World) : Prop :=
  ∃ u d, e = .returned (.tuple #[u, d]) ∧ stoSh.Row w' w'.heap.size u (playTo os os.length).1 ∧ Sh.bool.Row w' w'.heap.size d (playTo os os.length).2 ∧ Below w.heap.size w w'
theorem JaI.made {w W : World} {os : List Op} {a b : Value} (h : JaI w os os.length a b W) : JaMade os w (.returned (.tuple #[a, b])) W := by
  obtain ⟨S1, S2, h1, h2, -, -, -, h6⟩ := h
  exact ⟨a, b, rfl, h1.row, h2.row, h6⟩
theorem JaI.grow {w W2 W4 : World} {os : List Op} {k : Nat} {a b v4 : Value} {x : Bool} {S1 S2 : Nat → Prop} {xs : List Sto} {bs : List Bool} {ob : Obj} (hxs : (playTo os (k + 1)).1 = xs) (hbs : (playTo os (k + 1)).2 = bs ++ [x]) (h1 : stoSh.Own 56 W2 S1 a xs) (h2 : Sh.bool.Own 4 (W2.alloc ob) S2 b bs)
    (s1 : ∀ i, S1 i → w.heap.size ≤ i ∧ i < W2.heap.size) (s2 : ∀ i, S2 i → w.heap.size ≤ i ∧ i < W2.heap.size) (s3 : ∀ i, S1 i → ¬ S2 i) (hb : Below w.heap.size w W2) (h4 : Sh.bool.Own 4 W4 (fun b => S2 b ∨ False ∨ b = (W2.alloc ob).heap.size) v4 (bs ++ [x])) (hg : (W2.alloc ob).grownBy W4 b.ownBlock) : JaI w os (k + 1) a v4 W4 := by
  have hz := hg.size
  have hz2 := hb.size
  rw [allocSize] at hz
  refine ⟨S1, fun i => (S2 i ∨ False ∨ i = (W2.alloc ob).heap.size) ∧ i < W4.heap.size, ?_, by rw [hbs]; exact h4.cap, fun i hi => ⟨(s1 i hi).1, by have := (s1 i hi).2; omega⟩, fun i hi => ⟨?_, hi.2⟩, fun i hi h => ?_, ?_⟩
  · rw [hxs]
    exact (h1.below (belowOne W2 ob)).keep fun i hi hlt => hg.block i hlt (fun e => s3 i hi (h2.blk i e.symm))
  · rcases hi.1 with h | h | h
    · exact (s2 i h).1
    · exact h.elim
    · rw [allocSize] at h; omega
  · rcases h.1 with h | h | h
    · exact s3 i hi h
    · exact h.elim
    · have := (s1 i hi).2; rw [allocSize] at h; omega
  · exact (belowNext hb (belowOne _ _)).trans ((Outs.of_grown hg (S := fun i => w.heap.size ≤ i) fun i e => (s2 i (h2.blk i e)).1).below (by rw [allocSize]; omega) fun _ h => h)
set_option maxRecDepth 100000 in
set_option maxHeartbeats 1000000 in
theorem jaGlo_any (w : World) (v : Value) (os : List Op) (hv : opSh.Row w w.heap.size v os) (hl : os.length ≤ 1000) : Calls Try.prog 24 #[v] w (JaMade os w) := by
  obtain ⟨A, c, rfl, hc2, hc1⟩ := hv.form
  unfold maxLen at hc2
  have HV := Lib.hid hv
  clear hv
  go_enter Try.func24, Try.ntmps24
  go_wp2_with fail
  refine (implGloNew_any _).mono ?_
  rintro e w1 ⟨u, rfl, hu, hb1⟩
  obtain ⟨Au, cu, hf, -, -⟩ := hu.row.form
  subst hf
  have HI := Lib.hid (show JaI w os 0 (.slice Au newG.length cu) (.slice (some ⟨w1.heap.size, 0, none⟩) 0 0) (w1.alloc (.cells #[] 4)) from
    ⟨_, _, hu.cap.below (belowOne w1 _), Sh.Own.lit0 Sh.bool 4 w1, fun i hi => ⟨hi.1.1, by rw [allocSize]; have := hi.2; omega⟩, fun i hi => ⟨by have := hb1.size; omega, by rw [allocSize]; omega⟩, fun i hi h2 => by have := hi.2; omega, belowNext hb1 (belowOne _ _)⟩)
  clear hu hb1
  go_wp2
  go_loopw [4, 5, 6] (fun a b i wr => ∃ k : Nat, k ≤ os.length ∧ i = .int .i64 k ∧ JaI w os k a b wr) (fun _ _ i _ => os.length - (intOf i).toNat)
  case atStart => exact ⟨0, Nat.zero_le _, rfl, HI.out⟩
  case round =>
    clear HI
    obtain ⟨k, hk, rfl, hI⟩ := hrel
    by_cases hlt : k < os.length
    · obtain ⟨S1, S2, i1, i2, i3, i4, i5, i6⟩ := hI
      obtain ⟨A1, c1, hf1, -, -⟩ := i1.row.form
      obtain ⟨A2, c2, hf2, -, -⟩ := i2.row.form
      subst hf1
      subst hf2
      obtain ⟨b, off, c', o, e1, ho, hB, q0, q1, q2, q3, q4, q5, q6⟩ := ops_at (HV.out.below i6) hlt
      injection e1 with e1a e1b e1c
      subst e1a
      have HO := Lib.hid ho
      have H := Lib.hid (And.intro i1 (And.intro i2 (And.intro i3 (And.intro i4 (And.intro i5 i6)))))
      clear i1 i2 i3 i4 i5 i6 e1b e1c ho hk
      go_wp2_with fail
      clear q0 q1 q2 q3 q4 q5 q6
      refine (implGloDo_any _ _ _ H.out.1.row _ o).mono ?_
      rintro e w2 ⟨u2, rfl, hu2, hb2⟩
      obtain ⟨i1, i2, i3, i4, i5, i6⟩ := H.out
      have hz := hb2.size
      cases hd : (gloDo (playTo os k).1 k o).2 with
      | true =>
        have HX2 := Lib.hid (playTo_yes HO.out hd)
        have HD2 := Lib.hid ((playTo_done HO.out).trans (by rw [hd]))
        have HU2 := Lib.hid hu2
        have HS1 := Lib.hid (show (∀ i, (wr.heap.size ≤ i ∧ i < w2.heap.size) → w.heap.size ≤ i ∧ i < w2.heap.size) ∧ (∀ i, (wr.heap.size ≤ i ∧ i < w2.heap.size) → ¬ S2 i) from ⟨fun i hi => ⟨Nat.le_trans i6.size hi.1, hi.2⟩, fun i hi h => by have := (i4 i h).2; omega⟩)
        obtain ⟨Ax, cx, hfx, -, -⟩ := hu2.row.form
        subst hfx
        have HO2 := Lib.hid ((i2.below hb2).below (belowOne w2 (.cells #[.bool true] 4)))
        have HS2 := Lib.hid (Held.new w2 #[.bool true] 4)
        have HB2 := Lib.hid (i6.trans (hb2.mono i6.size))
        have H4 := Lib.hid (show ∀ i, S2 i → w.heap.size ≤ i ∧ i < w2.heap.size from fun i hi => ⟨(i4 i hi).1, by have := (i4 i hi).2; omega⟩)
        clear hd hu2 hb2 i1 i2 i3 i4 i5 i6 H
        go_wp2_with (at_builtin; refine wpl_append_sh Sh.bool 48 4 _ 1 Try.underlying48 infoBool rfl (by decide) (by omega) rfl _ _ rfl _ (fun _ => False) _ _ rfl HO2.out w2.heap.size rfl _ true rfl HS2.out (fun _ _ h => h) (by rw [playTo_len os k (by omega)]; omega) ?_; intro u4 w4 hown4 hg4 _; have HO4 := Lib.hid hown4; have HG4 := Lib.hid hg4; clear hown4 hg4)
        go_wp2
        go_roundw
        case rel => exact ⟨k + 1, by omega, by go_num, JaI.grow HX2.out HD2.out HU2.out HO2.out HS1.out.1 H4.out HS1.out.2 HB2.out HO4.out HG4.out⟩
        case measure => simp [intOf]; omega
      | false =>
        have HX2 := Lib.hid (playTo_no HO.out hd)
        have HD2 := Lib.hid ((playTo_done HO.out).trans (by rw [hd]))
        have HU2 := Lib.hid (i1.below hb2)
        have HS1 := Lib.hid (show (∀ i, S1 i → w.heap.size ≤ i ∧ i < w2.heap.size) ∧ (∀ i, S1 i → ¬ S2 i) from ⟨fun i hi => ⟨(i3 i hi).1, by have := (i3 i hi).2; omega⟩, i5⟩)
        obtain ⟨Ax, cx, hfx, -, -⟩ := hu2.row.form
        subst hfx
        have HO2 := Lib.hid ((i2.below hb2).below (belowOne w2 (.cells #[.bool false] 4)))
        have HS2 := Lib.hid (Held.new w2 #[.bool false] 4)
        have HB2 := Lib.hid (i6.trans (hb2.mono i6.size))
        have H4 := Lib.hid (show ∀ i, S2 i → w.heap.size ≤ i ∧ i < w2.heap.size from fun i hi => ⟨(i4 i hi).1, by have := (i4 i hi).2; omega⟩)
        clear hd hu2 hb2 i1 i2 i3 i4 i5 i6 H
        go_wp2_with (at_builtin; refine wpl_append_sh Sh.bool 48 4 _ 1 Try.underlying48 infoBool rfl (by decide) (by omega) rfl _ _ rfl _ (fun _ => False) _ _ rfl HO2.out w2.heap.size rfl _ false rfl HS2.out (fun _ _ h => h) (by rw [playTo_len os k (by omega)]; omega) ?_; intro u4 w4 hown4 hg4 _; have HO4 := Lib.hid hown4; have HG4 := Lib.hid hg4; clear hown4 hg4)
        go_wp2
        go_roundw
        case rel => exact ⟨k + 1, by omega, by go_num, JaI.grow HX2.out HD2.out HU2.out HO2.out HS1.out.1 H4.out HS1.out.2 HB2.out HO4.out HG4.out⟩
        case measure => simp [intOf]; omega
    · have : k = os.length := by omega
      subst this
      have HI := Lib.hid hI
      obtain ⟨S1, S2, i1, i2, -⟩ := hI
      obtain ⟨A1, c1, hf1, -, -⟩ := i1.row.form
      obtain ⟨A2, c2, hf2, -, -⟩ := i2.row.form
      subst hf1
      subst hf2
      clear i1 i2
      go_wp2
      go_ret2
      exact HI.out.made

end Go.Proofs.Ytlmcpkijcadalaa
