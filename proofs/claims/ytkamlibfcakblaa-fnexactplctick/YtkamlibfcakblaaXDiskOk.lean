/- Texts that follow each other, merged: DiskOk, Ring. -/
import Derived.Test.YtkamlibfcakblaaXRegTake
import Derived.Test.YtkamlibfcakblaaXShOwn

/- What DiskOk answers, of the program and of the model: the same bool. -/
namespace Go.Proofs.Ytkamlibfcakblaa
open Go.RowKit

/-- A note at a place, its slices as such. -/
theorem notes_at2 {w : World} {B : Nat} {v : Value} {xs : List Note} (h : noteSh.Row w B v xs) {k : Nat} (hk : k < xs.length) : ∃ b off c x A1 c1 A2 c2, v = .slice (some ⟨b, off, none⟩) xs.length c ∧ xs[k]? = some x ∧ b < B ∧
    w.cell? ⟨b, off + k * 4, none⟩ = some (.int .i64 x.kind) ∧ w.cell? ⟨b, off + k * 4 + 1, none⟩ = some (.int .i64 x.tx) ∧ w.cell? ⟨b, off + k * 4 + 2, none⟩ = some (.slice A1 x.locks.length c1) ∧ w.cell? ⟨b, off + k * 4 + 3, none⟩ = some (.slice A2 x.writes.length c2) ∧
    noteSh.rel w B [.int .i64 x.kind, .int .i64 x.tx, .slice A1 x.locks.length c1, .slice A2 x.writes.length c2] x := by
  obtain ⟨b, off, c, x, cs, hv, hx, hb, hr, hc⟩ := h.at_ hk
  obtain ⟨u, u', rfl, h1, h2⟩ := note_rel.1 hr
  obtain ⟨A1, c1, rfl, -, -⟩ := h1.form
  obtain ⟨A2, c2, rfl, -, -⟩ := h2.form
  exact ⟨b, off, c, x, A1, c1, A2, c2, hv, hx, hb, hc 0 _ rfl, hc 1 _ rfl, hc 2 _ rfl, hc 3 _ rfl, hr⟩

set_option maxRecDepth 100000 in
theorem implDiskOk_any (w : World) (cs : List Value) (x : Disk) (h : diskSh.rel w w.heap.size cs x) :
    Calls Try.prog 60 #[.agg cs.toArray] w fun e w' => e = .returned (.bool (diskB x)) ∧ Below w.heap.size w w' := by
  obtain ⟨u, rfl, hu⟩ := disk_rel.1 h
  obtain ⟨Au, cu, rfl, hcu, hnu⟩ := hu.form
  unfold maxLen at hcu
  have HU := Lib.hid (hu.alloc (Nat.le_refl _) (.cells #[.slice Au x.notes.length cu, .int .i64 x.safe] 25))
  have HW := Lib.hid (belowOne w (.cells #[.slice Au x.notes.length cu, .int .i64 x.safe] 25))
  clear h hu
  by_cases h1 : 120 < x.notes.length
  · have HK := Lib.hid (diskB_long h1)
    go_enter Try.func60, Try.ntmps60
    go_wp2
    go_ret
    exact ⟨ret_bool HK.out.symm, HW.out⟩
  · by_cases h2 : x.safe < 0
    · have HK := Lib.hid (diskB_safe (inB_no (n := x.safe) (lo := 0) (hi := (x.notes.length : Int)) (.inl h2)))
      go_enter Try.func60, Try.ntmps60
      go_wp2
      go_ret
      exact ⟨ret_bool HK.out.symm, HW.out⟩
    · by_cases h3 : (x.notes.length : Int) < x.safe
      · have HK := Lib.hid (diskB_safe (inB_no (n := x.safe) (lo := 0) (hi := (x.notes.length : Int)) (.inr h3)))
        go_enter Try.func60, Try.ntmps60
        go_wp2
        go_ret
        exact ⟨ret_bool HK.out.symm, HW.out⟩
      · have HI := Lib.hid (inB_yes (n := x.safe) (lo := 0) (hi := (x.notes.length : Int)) (by omega) (by omega))
        have h1' : x.notes.length ≤ 120 := by omega
        have h2' : 0 ≤ x.safe := by omega
        have h3' : x.safe ≤ (x.notes.length : Int) := by omega
        clear h1 h2 h3
        have hz0 : w.heap.size < (w.alloc (.cells #[.slice Au x.notes.length cu, .int .i64 x.safe] 25)).heap.size := by simp
        go_enter Try.func60, Try.ntmps60
        go_wp2
        generalize w.alloc (.cells #[.slice Au x.notes.length cu, .int .i64 x.safe] 25) = w0 at *
        go_loopw [25] (fun i wr => ∃ k : Nat, k ≤ x.notes.length ∧ i = .int .i64 k ∧ AllTo noteB x.notes k ∧ Below w0.heap.size w0 wr) (fun i _ => x.notes.length - (intOf i).toNat)
        case atStart => exact ⟨0, Nat.zero_le _, rfl, AllTo.start _ _, Below.refl _ _⟩
        case round =>
          obtain ⟨k, hk, rfl, hm, hb⟩ := hrel
          by_cases hlt : k < x.notes.length
          · obtain ⟨b, off, c, y, A1, c1, A2, c2, e1, hx, hB, d0, d1, d2, d3, hr⟩ := notes_at2 (HU.out.below (hb.mono (Nat.le_of_lt hz0))) hlt
            injection e1 with e1a e1b e1c
            subst e1a
            have HR := Lib.hid fun o => noteSh.rmore (noteSh.rbelow (noteSh.rmore hr (Nat.le_trans (Nat.le_of_lt hz0) hb.size)) (belowOne wr o)) (B' := (wr.alloc o).heap.size) (by simp)
            have HB := Lib.hid fun o => hb.alloc hb.size o
            clear e1b e1c hr hb
            rcases hn : noteB y
            · have HK := Lib.hid (diskB_bad hx hn)
              clear hx
              go_wp2_with (go_at_call 67; refine (implNoteOk_any _ _ y (HR.out _)).mono ?_; rintro e w1 ⟨rfl, hb1⟩; have HN := Lib.hid (belowNext (HB.out _) hb1); clear hb1)
              go_ret
              exact ⟨ret_bool HK.out.symm, HW.out.trans (HN.out.mono (Nat.le_of_lt hz0))⟩
            · have HM := Lib.hid (hm.step hx hn)
              clear hx
              go_wp2_with (go_at_call 67; refine (implNoteOk_any _ _ y (HR.out _)).mono ?_; rintro e w1 ⟨rfl, hb1⟩; have HN := Lib.hid (belowNext (HB.out _) hb1); clear hb1)
              go_roundw
              case rel => exact ⟨k + 1, by omega, by go_num, HM.out, HN.out⟩
              case measure => simp [intOf]; omega
          · have HK := Lib.hid (diskB_yes h1' HI.out ((show k = x.notes.length by omega) ▸ hm))
            go_wp2
            go_ret
            exact ⟨ret_bool HK.out.symm, HW.out.trans (hb.mono (Nat.le_of_lt hz0))⟩

set_option maxRecDepth 100000 in
theorem specDiskOk_any (w : World) (cs : List Value) (x : Disk) (h : diskSh.rel w w.heap.size cs x) :
    Calls Try.prog 15 #[.agg cs.toArray] w fun e w' => e = .returned (.bool (diskB x)) ∧ Below w.heap.size w w' := by
  obtain ⟨u, rfl, hu⟩ := disk_rel.1 h
  obtain ⟨Au, cu, rfl, hcu, hnu⟩ := hu.form
  unfold maxLen at hcu
  have HU := Lib.hid (hu.alloc (Nat.le_refl _) (.cells #[.slice Au x.notes.length cu, .int .i64 x.safe] 25))
  have HX := Lib.hid (Held.new w #[.slice Au x.notes.length cu, .int .i64 x.safe] 25)
  have HW := Lib.hid (belowOne w (.cells #[.slice Au x.notes.length cu, .int .i64 x.safe] 25))
  clear h hu
  by_cases h1 : 120 < x.notes.length
  · have HK := Lib.hid (diskB_long h1)
    go_enter Try.func15, Try.ntmps15
    go_wp2
    go_ret
    exact ⟨ret_bool HK.out.symm, HW.out⟩
  · rcases hi : inB x.safe 0 (x.notes.length : Int)
    · have HK := Lib.hid (diskB_safe hi)
      go_enter Try.func15, Try.ntmps15
      go_wp2_with (go_at_call 64; refine (l1In_any _ _ _ _).mono ?_; rintro e w' ⟨rfl, rfl⟩)
      go_ret
      exact ⟨ret_bool HK.out.symm, HW.out⟩
    · have h1' : x.notes.length ≤ 120 := by omega
      clear h1
      have c0 := HX.out.of 0 _ rfl
      have hz0 : w.heap.size < (w.alloc (.cells #[.slice Au x.notes.length cu, .int .i64 x.safe] 25)).heap.size := by simp
      go_enter Try.func15, Try.ntmps15
      go_wp2_with (go_at_call 64; refine (l1In_any _ _ _ _).mono ?_; rintro e w' ⟨rfl, rfl⟩)
      generalize w.alloc (.cells #[.slice Au x.notes.length cu, .int .i64 x.safe] 25) = w0 at *
      go_loopw [3] (fun i wr => ∃ k : Nat, k ≤ x.notes.length ∧ i = .int .i64 k ∧ AllTo noteB x.notes k ∧ Below w0.heap.size w0 wr) (fun i _ => x.notes.length - (intOf i).toNat)
      case atStart => exact ⟨0, Nat.zero_le _, rfl, AllTo.start _ _, Below.refl _ _⟩
      case round =>
        obtain ⟨k, hk, rfl, hm, hb⟩ := hrel
        have d := (hb.cell (p := ⟨w.heap.size, 0, none⟩) hz0).trans c0
        by_cases hlt : k < x.notes.length
        · obtain ⟨b, off, c, y, A1, c1, A2, c2, e1, hx, hB, d0, d1, d2, d3, hr⟩ := notes_at2 (HU.out.below (hb.mono (Nat.le_of_lt hz0))) hlt
          injection e1 with e1a e1b e1c
          subst e1a
          have HR := Lib.hid (noteSh.rmore hr (Nat.le_trans (Nat.le_of_lt hz0) hb.size))
          have HB := Lib.hid hb
          clear e1b e1c hr hb
          rcases hn : noteB y
          · have HK := Lib.hid (diskB_bad hx hn)
            clear hx
            go_wp2_with (go_at_call 65; refine (specNoteOk_any _ _ y HR.out).mono ?_; rintro e w1 ⟨rfl, hb1⟩; have HN := Lib.hid (belowNext HB.out hb1); clear hb1)
            go_ret
            exact ⟨ret_bool HK.out.symm, HW.out.trans (HN.out.mono (Nat.le_of_lt hz0))⟩
          · have HM := Lib.hid (hm.step hx hn)
            clear hx
            go_wp2_with (go_at_call 65; refine (specNoteOk_any _ _ y HR.out).mono ?_; rintro e w1 ⟨rfl, hb1⟩; have HN := Lib.hid (belowNext HB.out hb1); clear hb1)
            go_roundw
            case rel => exact ⟨k + 1, by omega, by go_num, HM.out, HN.out⟩
            case measure => simp [intOf]; omega
        · have HK := Lib.hid (diskB_yes h1' hi ((show k = x.notes.length by omega) ▸ hm))
          go_wp2
          go_ret
          exact ⟨ret_bool HK.out.symm, HW.out.trans (hb.mono (Nat.le_of_lt hz0))⟩

end Go.Proofs.Ytkamlibfcakblaa

/- A ring of notes: a marker, and a link for each note, one behind the other. Nothing of the program but how a link lies. -/
namespace Go.Proofs.Ytkamlibfcakblaa
open Go.RowKit

def at_ (L : List Nat) (i : Nat) : Nat := L.getD i 0
theorem at_left {L : List Nat} {b i : Nat} (h : i < L.length) : at_ (L ++ [b]) i = at_ L i := by simp [at_, List.getD_eq_getElem?_getD, List.getElem?_append_left h]
theorem at_last {L : List Nat} {b i : Nat} (h : i = L.length) : at_ (L ++ [b]) i = b := by subst h; simp [at_, List.getD_eq_getElem?_getD]
/-- A pointer to a block. -/
def ptr (b : Nat) : Value := .pointer (some ⟨b, 0, none⟩)
/-- Who comes before i, and behind it, of n and the marker. -/
def pre_ (n i : Nat) : Nat := if i = 0 then n else i - 1
def nxt_ (n i : Nat) : Nat := if i = n then 0 else i + 1

/-- A block of plain cells. -/
def Plain_ (w : World) (q : Nat) : Prop := ∃ (ca : Array Value) (ta : TypeId), w.heap[q]? = some (.cells ca ta (0, 0))
theorem Plain_.set {w : World} {q : Nat} (h : Plain_ w q) (p : Addr) (hp : p.spot = none) (u : Value) : Plain_ (w.setCell p u) q := by
  obtain ⟨ca, ta, h⟩ := h
  by_cases e : q = p.block
  · subst e
    obtain ⟨b, o, s⟩ := p
    simp only at hp
    subst hp
    exact ⟨_, _, heap_setCell_same w b o ca ta u h⟩
  · exact ⟨ca, ta, by rw [Below.heap_setCell w p u q e]; exact h⟩
theorem Plain_.new (w : World) (ca : Array Value) (ta : TypeId) : Plain_ (w.alloc (.cells ca ta)) w.heap.size := ⟨ca, ta, Go.Deep.blk_alloc_new w _⟩
theorem Plain_.below {w w' : World} {q n : Nat} (h : Plain_ w q) (hb : Below n w w') (hq : q < n) : Plain_ w' q := by
  obtain ⟨ca, ta, h⟩ := h
  exact ⟨ca, ta, by rw [hb.block q hq]; exact h⟩
theorem Plain_.third (w : World) (o1 o2 : Obj) (ca : Array Value) (ta : TypeId) : Plain_ (((w.alloc o1).alloc o2).alloc (.cells ca ta)) (w.heap.size + 1 + 1) := by
  have h := Plain_.new ((w.alloc o1).alloc o2) ca ta
  have e : ((w.alloc o1).alloc o2).heap.size = w.heap.size + 1 + 1 := by simp
  rw [e] at h; exact h
theorem Plain_.second (w : World) (o1 o3 : Obj) (ca : Array Value) (ta : TypeId) : Plain_ (((w.alloc o1).alloc (.cells ca ta)).alloc o3) (w.heap.size + 1) := by
  have h := (Plain_.new (w.alloc o1) ca ta).below (belowOne _ o3) (by simp)
  have e : (w.alloc o1).heap.size = w.heap.size + 1 := by simp
  rw [e] at h; exact h

structure Ring (w : World) (B : Nat) (L : List Nat) (ns : List Note) : Prop where
  len : L.length = ns.length + 1
  lo : ∀ i, i < L.length → B ≤ at_ L i
  up : ∀ i j, i < j → j < L.length → at_ L i < at_ L j
  lt : ∀ i, i < L.length → at_ L i < w.heap.size
  prev : ∀ i, i < L.length → w.cell? ⟨at_ L i, 4, none⟩ = some (ptr (at_ L (pre_ ns.length i)))
  next : ∀ i, i < L.length → w.cell? ⟨at_ L i, 5, none⟩ = some (ptr (at_ L (nxt_ ns.length i)))
  free : ∀ i j, i < L.length → w.frozen? ⟨at_ L i, j, none⟩ = false
  blk : ∀ i, i < L.length → Plain_ w (at_ L i)
  note : ∀ i x, ns[i]? = some x → ∃ cs, noteSh.rel w B cs x ∧ ∀ j u, cs[j]? = some u → w.cell? ⟨at_ L (i + 1), j, none⟩ = some u

section
variable {w w' : World} {B n : Nat} {L : List Nat} {ns : List Note}
theorem Ring.below (h : Ring w B L ns) (hb : Below n w w') (hB : B ≤ n) (hn : ∀ i, i < L.length → at_ L i < n) : Ring w' B L ns where
  len := h.len
  lo := h.lo
  up := h.up
  lt i hi := Nat.lt_of_lt_of_le (h.lt i hi) hb.size
  prev i hi := (hb.cell (p := ⟨at_ L i, 4, none⟩) (hn i hi)).trans (h.prev i hi)
  next i hi := (hb.cell (p := ⟨at_ L i, 5, none⟩) (hn i hi)).trans (h.next i hi)
  free i j hi := (hb.frozen (p := ⟨at_ L i, j, none⟩) (hn i hi)).trans (h.free i j hi)
  blk i hi := (h.blk i hi).below hb (hn i hi)
  note i x hx := by
    obtain ⟨cs, h1, h2⟩ := h.note i x hx
    have hi : i + 1 < L.length := by rw [h.len]; have := (List.getElem?_eq_some_iff.1 hx).1; omega
    exact ⟨cs, noteSh.rbelow h1 (hb.mono hB), fun j u hu => (hb.cell (p := ⟨at_ L (i + 1), j, none⟩) (hn _ hi)).trans (h2 j u hu)⟩
theorem Ring.size (h : Ring w B L ns) : B ≤ w.heap.size := Nat.le_trans (h.lo 0 (by rw [h.len]; omega)) (Nat.le_of_lt (h.lt 0 (by rw [h.len]; omega)))
theorem Ring.onward (h : Ring w B L ns) (hb : Below w.heap.size w w') : Ring w' B L ns := h.below hb h.size h.lt
/-- The cells of the link of a note. -/
theorem Ring.at_ (h : Ring w B L ns) {k : Nat} (hk : k < ns.length) : ∃ x A1 c1 A2 c2, ns[k]? = some x ∧ w.cell? ⟨Go.Proofs.Ytkamlibfcakblaa.at_ L (k + 1), 0, none⟩ = some (.int .i64 x.kind) ∧ w.cell? ⟨Go.Proofs.Ytkamlibfcakblaa.at_ L (k + 1), 1, none⟩ = some (.int .i64 x.tx) ∧
    w.cell? ⟨Go.Proofs.Ytkamlibfcakblaa.at_ L (k + 1), 2, none⟩ = some (.slice A1 x.locks.length c1) ∧ w.cell? ⟨Go.Proofs.Ytkamlibfcakblaa.at_ L (k + 1), 3, none⟩ = some (.slice A2 x.writes.length c2) ∧
    noteSh.rel w B [.int .i64 x.kind, .int .i64 x.tx, .slice A1 x.locks.length c1, .slice A2 x.writes.length c2] x := by
  obtain ⟨cs, hr, hc⟩ := h.note k _ (List.getElem?_eq_getElem hk)
  obtain ⟨u, u', rfl, h1, h2⟩ := note_rel.1 hr
  obtain ⟨A1, c1, rfl, -, -⟩ := h1.form
  obtain ⟨A2, c2, rfl, -, -⟩ := h2.form
  exact ⟨_, A1, c1, A2, c2, List.getElem?_eq_getElem hk, hc 0 _ rfl, hc 1 _ rfl, hc 2 _ rfl, hc 3 _ rfl, hr⟩
end

/-- A link more, behind all. -/
theorem Ring.more {w W : World} {B b : Nat} {L : List Nat} {ns : List Note} {cs : List Value} {x : Note} (h : Ring w B L ns) (hb : w.heap.size ≤ b) (hbW : b < W.heap.size)
    (hcell : ∀ q j, q < w.heap.size → W.cell? ⟨q, j, none⟩ = if q = Go.Proofs.Ytkamlibfcakblaa.at_ L 0 ∧ j = 4 then some (ptr b) else if q = Go.Proofs.Ytkamlibfcakblaa.at_ L ns.length ∧ j = 5 then some (ptr b) else w.cell? ⟨q, j, none⟩)
    (hfro : ∀ q j, q < w.heap.size → W.frozen? ⟨q, j, none⟩ = w.frozen? ⟨q, j, none⟩)
    (hnew : ∀ j u, (cs ++ [ptr (Go.Proofs.Ytkamlibfcakblaa.at_ L ns.length), ptr (Go.Proofs.Ytkamlibfcakblaa.at_ L 0)])[j]? = some u → W.cell? ⟨b, j, none⟩ = some u) (hnf : ∀ j, W.frozen? ⟨b, j, none⟩ = false) (hpl : ∀ q, q < w.heap.size → Plain_ w q → Plain_ W q) (hplb : Plain_ W b) (hx : noteSh.rel w B cs x) : Ring W B (L ++ [b]) (ns ++ [x]) := by
  have hl := h.len
  have hB := h.size
  have hcl : cs.length = 4 := noteSh.rlen hx
  have inj : ∀ i j, i < L.length → j < L.length → Go.Proofs.Ytkamlibfcakblaa.at_ L i = Go.Proofs.Ytkamlibfcakblaa.at_ L j → i = j := fun i j hi hj e => by
    rcases Nat.lt_trichotomy i j with h' | h' | h'
    · have := h.up i j h' hj; omega
    · exact h'
    · have := h.up j i h' hi; omega
  have hrel : ∀ {ds y}, noteSh.rel w B ds y → noteSh.rel W B ds y := fun {ds y} hr => noteSh.rkeep hr fun q o hq => by
    rw [hcell q o (by omega), if_neg, if_neg]
    · rintro ⟨e, -⟩; have := h.lo ns.length (by omega); omega
    · rintro ⟨e, -⟩; have := h.lo 0 (by omega); omega
  refine ⟨by simp [hl], fun i hi => ?_, fun i j hij hj => ?_, fun i hi => ?_, fun i hi => ?_, fun i hi => ?_, fun i j hi => ?_, fun i hi => ?_, fun i y hy => ?_⟩
  · simp only [List.length_append, List.length_cons, List.length_nil] at hi
    rcases Nat.lt_or_ge i L.length with h' | h'
    · rw [at_left h']; exact h.lo i h'
    · rw [at_last (by omega)]; omega
  · simp only [List.length_append, List.length_cons, List.length_nil] at hj
    rw [at_left (show i < L.length by omega)]
    rcases Nat.lt_or_ge j L.length with h' | h'
    · rw [at_left h']; exact h.up i j hij h'
    · rw [at_last (by omega)]; have := h.lt i (by omega); omega
  · simp only [List.length_append, List.length_cons, List.length_nil] at hi
    rcases Nat.lt_or_ge i L.length with h' | h'
    · rw [at_left h']; have := h.lt i h'; omega
    · rw [at_last (by omega)]; exact hbW
  · simp only [List.length_append, List.length_cons, List.length_nil] at hi ⊢
    rcases Nat.lt_or_ge i L.length with h' | h'
    · rw [at_left h', hcell _ _ (h.lt i h')]
      by_cases e : i = 0
      · subst e
        rw [if_pos ⟨rfl, rfl⟩]
        simp only [pre_, if_true]
        rw [at_last (by omega)]
      · rw [if_neg, if_neg, h.prev i h']
        · simp only [pre_, e, if_false]
          rw [at_left (by omega)]
        · rintro ⟨-, e'⟩; omega
        · rintro ⟨e', -⟩; exact e (inj i 0 h' (by omega) e')
    · have hi' : i = L.length := by omega
      subst hi'
      rw [at_last rfl, hnew 4 (ptr (Go.Proofs.Ytkamlibfcakblaa.at_ L ns.length)) (by rw [List.getElem?_append_right (by omega), hcl]; rfl)]
      simp only [pre_, show ¬ L.length = 0 by omega, if_false]
      rw [at_left (by omega), show L.length - 1 = ns.length by omega]
  · simp only [List.length_append, List.length_cons, List.length_nil] at hi ⊢
    rcases Nat.lt_or_ge i L.length with h' | h'
    · rw [at_left h', hcell _ _ (h.lt i h'), if_neg (by rintro ⟨-, e'⟩; omega)]
      by_cases e : i = ns.length
      · subst e
        rw [if_pos ⟨rfl, rfl⟩]
        simp only [nxt_, show ¬ ns.length = ns.length + (0 + 1) by omega, if_false]
        rw [at_last (by omega)]
      · rw [if_neg, h.next i h']
        · simp only [nxt_, e, if_false, show ¬ i = ns.length + (0 + 1) by omega]
          rw [at_left (by omega)]
        · rintro ⟨e', -⟩; exact e (inj i ns.length h' (by omega) e')
    · have hi' : i = L.length := by omega
      subst hi'
      rw [at_last rfl, hnew 5 (ptr (Go.Proofs.Ytkamlibfcakblaa.at_ L 0)) (by rw [List.getElem?_append_right (by omega), hcl]; rfl)]
      simp only [nxt_, show L.length = ns.length + (0 + 1) by omega, if_true]
      rw [at_left (by omega)]
  · simp only [List.length_append, List.length_cons, List.length_nil] at hi
    rcases Nat.lt_or_ge i L.length with h' | h'
    · rw [at_left h', hfro _ _ (h.lt i h')]; exact h.free i j h'
    · rw [at_last (by omega)]; exact hnf j
  · simp only [List.length_append, List.length_cons, List.length_nil] at hi
    rcases Nat.lt_or_ge i L.length with h' | h'
    · rw [at_left h']; exact hpl _ (h.lt i h') (h.blk i h')
    · rw [at_last (by omega)]; exact hplb
  · rcases Nat.lt_or_ge i ns.length with h' | h'
    · rw [List.getElem?_append_left h'] at hy
      obtain ⟨ds, h1, h2⟩ := h.note i y hy
      refine ⟨ds, hrel h1, fun j u hu => ?_⟩
      have hj : j < 4 := by have := (List.getElem?_eq_some_iff.1 hu).1; rw [noteSh.rlen h1] at this; exact this
      rw [at_left (by omega), hcell _ _ (h.lt _ (by omega)), if_neg (by rintro ⟨-, e'⟩; omega), if_neg (by rintro ⟨-, e'⟩; omega)]
      exact h2 j u hu
    · have hi' : i = ns.length := by
        have := (List.getElem?_eq_some_iff.1 hy).1
        simp at this; omega
      subst hi'
      have hy' : x = y := by simpa using hy
      subst hy'
      refine ⟨cs, hrel hx, fun j u hu => ?_⟩
      rw [at_last (by omega)]
      exact hnew j u (by rw [List.getElem?_append_left (List.getElem?_eq_some_iff.1 hu).1]; exact hu)

/-- A marker alone. -/
theorem Ring.one {w : World} {B b : Nat} (hB : B ≤ b) (hb : b < w.heap.size) (h4 : w.cell? ⟨b, 4, none⟩ = some (ptr b)) (h5 : w.cell? ⟨b, 5, none⟩ = some (ptr b)) (hf : ∀ j, w.frozen? ⟨b, j, none⟩ = false) (hpl : Plain_ w b) : Ring w B [b] [] where
  len := rfl
  lo i hi := by have : i = 0 := by simpa using hi
                subst this; exact hB
  up i j h1 h2 := by simp at h2; omega
  lt i hi := by have : i = 0 := by simpa using hi
                subst this; exact hb
  prev i hi := by have : i = 0 := by simpa using hi
                  subst this; exact h4
  next i hi := by have : i = 0 := by simpa using hi
                  subst this; exact h5
  free i j hi := by have : i = 0 := by simpa using hi
                    subst this; exact hf j
  blk i hi := by have : i = 0 := by simpa using hi
                 subst this; exact hpl
  note i x hx := by simp at hx

end Go.Proofs.Ytkamlibfcakblaa
