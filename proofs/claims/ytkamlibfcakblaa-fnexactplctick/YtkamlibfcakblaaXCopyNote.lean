/- The program's copy of a note. -/
import Derived.Test.YtkamlibfcakblaaXCloneStr
import Derived.Test.YtkamlibfcakblaaXFrameRow
import Derived.Test.YtkamlibfcakblaaXExItems
import Derived.Test.YtkamlibfcakblaaXCopyI
import Derived.Test.YtkamlibfcakblaaXNoteOk
import Derived.Deep.CutRange
import Derived.Deep.DeepCutAuto
import Derived.Deep.RegionHeld3
namespace Go.Proofs.Ytkamlibfcakblaa
open Go.RowKit

theorem belowAl {w W : World} (h : Below w.heap.size w W) (o : Obj) : Below w.heap.size w (W.alloc o) := h.alloc h.size o
/-- What lies behind the first region: the new note's box, without its writes. -/
def Boxd (W : World) (x : Note) (u : Value) (wc : World) : Prop :=
  ∃ p ul, u = .pointer (some ⟨p, 0, none⟩) ∧ W.heap.size ≤ p ∧ Held wc p [.int .i64 x.kind, .int .i64 x.tx, ul, .slice none 0 0] ∧ strSh.Own 9 wc (fun b => W.heap.size ≤ b ∧ b ≠ p) ul x.locks ∧ Below W.heap.size W wc

/-- What holds while the first region goes on. -/
structure CnI (W : World) (x : Note) (pv : Nat → Option Value) (L : Nat → Bool) (Y : World) (U : Nat → Value) : Prop where
  low : Below W.heap.size W Y
  pure : ∀ j v, pv j = some v → L j = true → U j = v
  own : L 9 = false → L 6 = true → ∃ S, strSh.Own 9 Y S (U 6) x.locks ∧ ∀ b, S b → W.heap.size ≤ b ∧ b < Y.heap.size ∧ (L 8 = true → U 8 ≠ .pointer (some ⟨b, 0, none⟩))
  agg : L 7 = true → U 7 = .agg #[.int .i64 x.kind, .int .i64 x.tx, U 6, .slice none 0 0]
  box : L 9 = false → L 8 = true → ∃ q, U 8 = .pointer (some ⟨q, 0, none⟩) ∧ W.heap.size ≤ q ∧ Held Y q [.int .i64 0, .int .i64 0, .slice none 0 0, .slice none 0 0]
  fin : L 9 = true → Boxd W x (U 8) Y
def cnInv (F : (Nat → Value) → Array Value) (W : World) (x : Note) (pv : Nat → Option Value) (L : Nat → Bool) (a : Act) (Y : World) : Prop := ∃ U, a = { tmps := F U, defers := [] } ∧ CnI W x pv L Y U
section
variable {W Y Y' : World} {x : Note} {pv : Nat → Option Value} {L : Nat → Bool} {U : Nat → Value}
theorem CnI.pureStep (h : CnI W x pv L Y U) {i : Nat} {v : Value} (hi : pv i = some v) (h6 : i ≠ 6) (h7 : i ≠ 7) (h8 : i ≠ 8) (h9 : i ≠ 9) : CnI W x pv (upd L i true) Y (upd U i v) := by
  have g : ∀ {j}, i ≠ j → upd L i true j = L j ∧ upd U i v j = U j := fun h => ⟨upd_other _ _ (Ne.symm h), upd_other _ _ (Ne.symm h)⟩
  refine ⟨h.low, fun j u hj hL => ?_, ?_, ?_, ?_, ?_⟩
  · by_cases hji : j = i
    · subst hji; rw [upd_same]; rw [hi] at hj; injection hj
    · rw [upd_other _ _ hji] at hL ⊢; exact h.pure j u hj hL
  · rw [(g h9).1, (g h6).1, (g h6).2, (g h8).1, (g h8).2]; exact h.own
  · rw [(g h7).1, (g h7).2, (g h6).2]; exact h.agg
  · rw [(g h9).1, (g h8).1, (g h8).2]; exact h.box
  · rw [(g h9).1, (g h8).2]; exact h.fin
theorem CnI.callStep (h : CnI W x pv L Y U) {u : Value} (hpv : pv 6 = none) (hL7 : L 7 = false) (hL9 : L 9 = false) (ho : strSh.Own 9 Y' (fun b => Y.heap.size ≤ b ∧ b < Y'.heap.size) u x.locks) (hb : Below Y.heap.size Y Y') : CnI W x pv (upd L 6 true) Y' (upd U 6 u) := by
  have hz := h.low.size
  have g : ∀ {j}, 6 ≠ j → upd L 6 true j = L j ∧ upd U 6 u j = U j := fun h => ⟨upd_other _ _ (Ne.symm h), upd_other _ _ (Ne.symm h)⟩
  refine ⟨h.low.trans (hb.mono hz), fun j v hj hL => ?_, fun _ _ => ?_, fun hh => ?_, fun h9 hh => ?_, fun hh => ?_⟩
  · by_cases hji : j = 6
    · subst hji; rw [hpv] at hj; cases hj
    · rw [upd_other _ _ hji] at hL ⊢; exact h.pure j v hj hL
  · refine ⟨fun b => Y.heap.size ≤ b ∧ b < Y'.heap.size, by rw [upd_same]; exact ho, fun b hb' => ⟨Nat.le_trans hz hb'.1, hb'.2, fun h8 => ?_⟩⟩
    rw [(g (by decide)).1] at h8
    rw [(g (by decide)).2]
    obtain ⟨q, e, _, h4⟩ := h.box hL9 h8
    rw [e]; intro he
    injection he with he; injection he with he; injection he with he
    have := h4.1; have := hb'.1; omega
  · rw [(g (by decide)).1, hL7] at hh; cases hh
  · rw [(g (by decide)).1] at hh
    obtain ⟨q, e, h3, h4⟩ := h.box hL9 hh
    exact ⟨q, by rw [(g (by decide)).2]; exact e, h3, h4.below hb h4.1⟩
  · rw [(g (by decide)).1, hL9] at hh; cases hh
theorem CnI.aggStep (h : CnI W x pv L Y U) (hpv : pv 7 = none) : CnI W x pv (upd L 7 true) Y (upd U 7 (.agg #[.int .i64 x.kind, .int .i64 x.tx, U 6, .slice none 0 0])) := by
  have g : ∀ {j}, 7 ≠ j → upd L 7 true j = L j ∧ upd U 7 (.agg #[.int .i64 x.kind, .int .i64 x.tx, U 6, .slice none 0 0]) j = U j := fun h => ⟨upd_other _ _ (Ne.symm h), upd_other _ _ (Ne.symm h)⟩
  have g6 := g (by decide : (7 : Nat) ≠ 6)
  have g8 := g (by decide : (7 : Nat) ≠ 8)
  have g9 := g (by decide : (7 : Nat) ≠ 9)
  refine ⟨h.low, fun j v hj hL => ?_, ?_, fun _ => ?_, ?_, ?_⟩
  · by_cases hji : j = 7
    · subst hji; rw [hpv] at hj; cases hj
    · rw [upd_other _ _ hji] at hL ⊢; exact h.pure j v hj hL
  · rw [g9.1, g6.1, g6.2, g8.1, g8.2]; exact h.own
  · rw [upd_same, g6.2]
  · rw [g9.1, g8.1, g8.2]; exact h.box
  · rw [g9.1, g8.2]; exact h.fin
theorem CnI.boxStep (h : CnI W x pv L Y U) (t : TypeId) (hpv : pv 8 = none) (hL9 : L 9 = false) : CnI W x pv (upd L 8 true) (Y.alloc (.cells #[.int .i64 0, .int .i64 0, .slice none 0 0, .slice none 0 0] t)) (upd U 8 (.pointer (some ⟨Y.heap.size, 0, none⟩))) := by
  have hz := h.low.size
  have g : ∀ {j}, 8 ≠ j → upd L 8 true j = L j ∧ upd U 8 (.pointer (some ⟨Y.heap.size, 0, none⟩)) j = U j := fun h => ⟨upd_other _ _ (Ne.symm h), upd_other _ _ (Ne.symm h)⟩
  have g6 := g (by decide : (8 : Nat) ≠ 6)
  have g7 := g (by decide : (8 : Nat) ≠ 7)
  have g9 := g (by decide : (8 : Nat) ≠ 9)
  refine ⟨h.low.alloc hz _, fun j v hj hL => ?_, fun _ hh => ?_, ?_, fun _ _ => ⟨Y.heap.size, upd_same _ _ _, hz, Held.new Y #[.int .i64 0, .int .i64 0, .slice none 0 0, .slice none 0 0] t⟩, fun hh => ?_⟩
  · by_cases hji : j = 8
    · subst hji; rw [hpv] at hj; cases hj
    · rw [upd_other _ _ hji] at hL ⊢; exact h.pure j v hj hL
  · rw [g6.1] at hh
    obtain ⟨S, h1, h2⟩ := h.own hL9 hh
    refine ⟨S, by rw [g6.2]; exact h1.below (belowOne Y _), fun b hb => ⟨(h2 b hb).1, by have := (h2 b hb).2.1; simp; omega, fun _ => ?_⟩⟩
    rw [upd_same]; intro he
    injection he with he; injection he with he; injection he with he
    have := (h2 b hb).2.1; omega
  · rw [g7.1, g7.2, g6.2]; exact h.agg
  · rw [g9.1, hL9] at hh; cases hh
theorem CnI.storeAt (h : CnI W x pv L Y U) (h6 : L 6 = true) (h7 : L 7 = true) (h8 : L 8 = true) (h9 : L 9 = false) : ∃ q A c, U 8 = .pointer (some ⟨q, 0, none⟩) ∧ Held Y q [.int .i64 0, .int .i64 0, .slice none 0 0, .slice none 0 0] ∧ U 6 = .slice A x.locks.length c ∧ U 7 = .agg #[.int .i64 x.kind, .int .i64 x.tx, .slice A x.locks.length c, .slice none 0 0] := by
  obtain ⟨q, e1, _, h2⟩ := h.box h9 h8
  obtain ⟨S, h3, _⟩ := h.own h9 h6
  obtain ⟨A, c, e2, _⟩ := h3.row.form
  have h4 := h.agg h7
  rw [e2] at h4
  exact ⟨q, A, c, e1, h2, e2, h4⟩
theorem CnI.storeStep (h : CnI W x pv L Y U) {q : Nat} {A : Option Addr} {c : Nat} (hpv : pv 9 = none) (h6 : L 6 = true) (h8 : L 8 = true) (h9 : L 9 = false) (hq : U 8 = .pointer (some ⟨q, 0, none⟩)) (hu : U 6 = .slice A x.locks.length c) :
    CnI W x pv (upd L 9 true) ((((Y.setCell ⟨q, 0, none⟩ (.int .i64 x.kind)).setCell ⟨q, 1, none⟩ (.int .i64 x.tx)).setCell ⟨q, 2, none⟩ (.slice A x.locks.length c)).setCell ⟨q, 3, none⟩ (.slice none 0 0)) U := by
  obtain ⟨q', e1, h1, h2⟩ := h.box h9 h8
  rw [hq] at e1
  injection e1 with e1; injection e1 with e1; injection e1 with e1
  subst e1
  obtain ⟨S, h3, h4⟩ := h.own h9 h6
  rw [hu] at h3
  have g : ∀ {j}, 9 ≠ j → upd L 9 true j = L j := fun h => upd_other _ _ (Ne.symm h)
  have hlow := (((h.low.setCell (p := ⟨q, 0, none⟩) h1 (.int .i64 x.kind)).setCell (p := ⟨q, 1, none⟩) h1 (.int .i64 x.tx)).setCell (p := ⟨q, 2, none⟩) h1 (.slice A x.locks.length c)).setCell (p := ⟨q, 3, none⟩) h1 (.slice none 0 0)
  have hne : ∀ b, S b → b ≠ q := fun b hb he => (h4 b hb).2.2 h8 (by rw [hq, he])
  refine ⟨hlow, fun j v hj hL => ?_, fun hh => ?_, ?_, fun hh => ?_, fun _ => ⟨q, .slice A x.locks.length c, hq, h1, ?_, ?_, hlow⟩⟩
  · by_cases hji : j = 9
    · subst hji; rw [hpv] at hj; cases hj
    · rw [upd_other _ _ hji] at hL; exact h.pure j v hj hL
  · rw [upd_same] at hh; cases hh
  · rw [g (by decide)]; exact h.agg
  · rw [upd_same] at hh; cases hh
  · exact (((h2.set_ (i := 0) (.int .i64 x.kind)).set_ (i := 1) (.int .i64 x.tx)).set_ (i := 2) (.slice A x.locks.length c)).set_ (i := 3) (.slice none 0 0)
  · refine (h3.keep fun b hb _ => ?_).mono fun b hb => ⟨(h4 b hb).1, hne b hb⟩
    rw [Below.heap_setCell _ _ _ _ (hne b hb), Below.heap_setCell _ _ _ _ (hne b hb), Below.heap_setCell _ _ _ _ (hne b hb), Below.heap_setCell _ _ _ _ (hne b hb)]
end

/-- Four cells of a block written. -/
abbrev put4 (w : World) (b : Nat) (b0 b1 b2 b3 : Value) : World := (((w.setCell ⟨b, 0, none⟩ b0).setCell ⟨b, 1, none⟩ b1).setCell ⟨b, 2, none⟩ b2).setCell ⟨b, 3, none⟩ b3
theorem Held.put4 {w : World} {b : Nat} {a0 a1 a2 a3 : Value} (h : Held w b [a0, a1, a2, a3]) (b0 b1 b2 b3 : Value) : Held (Go.Proofs.Ytkamlibfcakblaa.put4 w b b0 b1 b2 b3) b [b0, b1, b2, b3] :=
  (((h.set_ (i := 0) b0).set_ (i := 1) b1).set_ (i := 2) b2).set_ (i := 3) b3
theorem belowPut4 {B : Nat} {w a : World} (h : Below B w a) (b : Nat) (hb : B ≤ b) (b0 b1 b2 b3 : Value) : Below B w (put4 a b b0 b1 b2 b3) :=
  (((h.setCell (p := ⟨b, 0, none⟩) hb b0).setCell (p := ⟨b, 1, none⟩) hb b1).setCell (p := ⟨b, 2, none⟩) hb b2).setCell (p := ⟨b, 3, none⟩) hb b3
theorem put4_far (w : World) (g : Nat) (b0 b1 b2 b3 : Value) {b : Nat} (h : b ≠ g) : (put4 w g b0 b1 b2 b3).heap[b]? = w.heap[b]? := by
  unfold put4
  rw [Below.heap_setCell _ _ _ _ h, Below.heap_setCell _ _ _ _ h, Below.heap_setCell _ _ _ _ h, Below.heap_setCell _ _ _ _ h]
theorem put4_size (w : World) (g : Nat) (b0 b1 b2 b3 : Value) : (put4 w g b0 b1 b2 b3).heap.size = w.heap.size := by simp [World.setCell]
/-- What holds between two rounds: the note's box, its names, the writes so far. -/
def CnW (W : World) (p : Nat) (x : Note) (k : Nat) (wr : World) : Prop :=
  ∃ ul A c Su Sw, Held wr p [.int .i64 x.kind, .int .i64 x.tx, ul, .slice A k c] ∧ strSh.Own 9 wr Su ul x.locks ∧ wrSh.Own 86 wr Sw (.slice A k c) (x.writes.take k) ∧
    (∀ b, Su b → W.heap.size ≤ b ∧ b < wr.heap.size ∧ b ≠ p) ∧ (∀ b, Sw b → W.heap.size ≤ b ∧ b < wr.heap.size ∧ b ≠ p) ∧ (∀ b, Su b → ¬ Sw b) ∧ Below W.heap.size W wr
theorem infoWrC : (Try.prog.info? 86).map (fun i => (i.zero, i.size, i.bytes)) = some (some (.agg #[.string ByteArray.empty, .bool false, .slice none 0 0]), wrSh.wd, 48) := by kernel_rfl

set_option maxRecDepth 100000 in
set_option maxHeartbeats 2000000 in
theorem implCopyNote_any (w : World) (x : Note) (cs : List Value) (hr : noteSh.rel w w.heap.size cs x) (hl1 : x.locks.length ≤ 1048576) (hl2 : x.writes.length ≤ 1048576) (hl3 : ∀ y ∈ x.writes, y.val.length ≤ 1048576) :
    Calls Try.prog 111 #[.agg cs.toArray] w fun e w' => ∃ cs', e = .returned (.agg cs'.toArray) ∧ noteSh.own w' (fun b => w.heap.size ≤ b ∧ b < w'.heap.size) cs' x ∧ Below w.heap.size w w' := by
  obtain ⟨u, v, rfl, hu, hv⟩ := note_rel.1 hr
  obtain ⟨Au, cu, rfl, hu2, hu1⟩ := hu.form
  obtain ⟨Av, cv, rfl, hv2, hv1⟩ := hv.form
  have HB1 := Lib.hid ((Held.new w #[.int .i64 x.kind, .int .i64 x.tx, .slice Au x.locks.length cu, .slice Av x.writes.length cv] 36).after (.cells #[.int .i64 0, .int .i64 0, .slice none 0 0, .slice none 0 0] 36))
  have HB2 := Lib.hid (show Held ((w.alloc (.cells #[.int .i64 x.kind, .int .i64 x.tx, .slice Au x.locks.length cu, .slice Av x.writes.length cv] 36)).alloc (.cells #[.int .i64 0, .int .i64 0, .slice none 0 0, .slice none 0 0] 36)) (w.heap.size + 1) [.int .i64 0, .int .i64 0, .slice none 0 0, .slice none 0 0] from by have h := Held.new (w.alloc (.cells #[.int .i64 x.kind, .int .i64 x.tx, .slice Au x.locks.length cu, .slice Av x.writes.length cv] 36)) #[.int .i64 0, .int .i64 0, .slice none 0 0, .slice none 0 0] 36; rwa [allocSize] at h)
  have HLow := Lib.hid (belowTwo w (.cells #[.int .i64 x.kind, .int .i64 x.tx, .slice Au x.locks.length cu, .slice Av x.writes.length cv] 36) (.cells #[.int .i64 0, .int .i64 0, .slice none 0 0, .slice none 0 0] 36))
  have HU := Lib.hid hu
  have HV := Lib.hid hv
  clear hu hv hr
  go_enter Try.func111, Try.ntmps111
  go_upto_region 1 with fail
  have hWz : ((w.alloc (.cells #[.int .i64 x.kind, .int .i64 x.tx, .slice Au x.locks.length cu, .slice Av x.writes.length cv] 36)).alloc (.cells #[.int .i64 0, .int .i64 0, .slice none 0 0, .slice none 0 0] 36)).heap.size = w.heap.size + 1 + 1 := by simp
  generalize ((w.alloc (.cells #[.int .i64 x.kind, .int .i64 x.tx, .slice Au x.locks.length cu, .slice Av x.writes.length cv] 36)).alloc (.cells #[.int .i64 0, .int .i64 0, .slice none 0 0, .slice none 0 0] 36)) = W at HB1 HB2 HLow hWz ⊢
  go_cut [3] (fun u wc => Boxd W x u wc)
  case first =>
    have HS := Lib.hid fun (y : World) (hy : Below W.heap.size W y) => show y.cell? ⟨w.heap.size, 0, none⟩ = some (.int .i64 x.kind) ∧ y.cell? ⟨w.heap.size, 1, none⟩ = some (.int .i64 x.tx) ∧ y.cell? ⟨w.heap.size, 2, none⟩ = some (.slice Au x.locks.length cu) from
      have h := HB1.out.below hy HB1.out.1
      ⟨h.of 0 _ rfl, h.of 1 _ rfl, h.of 2 _ rfl⟩
    have HRw := Lib.hid fun (y : World) (hy : Below W.heap.size W y) => show strSh.Row y y.heap.size (.slice Au x.locks.length cu) x.locks from
      (HU.out.below (HLow.out.trans (hy.mono (by omega)))).more (by have := hy.size; omega)
    refine wp_region_inv2 (by kernel_rfl) (cnInv (fun U => #[.agg #[.int .i64 x.kind, .int .i64 x.tx, .slice Au x.locks.length cu, .slice Av x.writes.length cv], .pointer (some ⟨w.heap.size, 0, none⟩), .pointer (some ⟨w.heap.size + 1, 0, none⟩), U 8, undef, undef, U 0, U 1, U 2, U 3, U 4, U 5, U 6, U 7, undef, undef, undef, undef, undef, undef, undef, undef, undef, undef, undef, undef, undef, undef, undef, undef, undef, undef, undef, undef, undef, undef]) W x (fun j => match j with | 0 => some (.pointer (some ⟨w.heap.size, 0, none⟩)) | 1 => some (.int .i64 x.kind) | 2 => some (.pointer (some ⟨w.heap.size, 1, none⟩)) | 3 => some (.int .i64 x.tx) | 4 => some (.pointer (some ⟨w.heap.size, 2, none⟩)) | 5 => some (.slice Au x.locks.length cu) | _ => none)) (fun i o ho e he => (backB_at (by kernel_rfl) i o ho e he).1) (fun i o ho e he => (backB_at (by kernel_rfl) i o ho e he).2) ?h0 ?hstep ?hend
    case h0 => exact ⟨fun _ => undef, rfl, (Below.refl _ _).drew, fun _ _ _ h => absurd h (by simp), fun _ h => absurd h (by simp), fun h => absurd h (by simp), fun _ h => absurd h (by simp), fun h => absurd h (by simp)⟩
    case hstep =>
      rintro L a Y i o ho hLi hpre hdn ⟨U, rfl, hI⟩ K hK
      have hi : i < 10 := (Array.getElem?_eq_some_iff.1 ho).1
      have hd9 : i < 9 → L 9 = false := fun hj => hdn.notYet 1 9 9 (by kernel_rfl) hj hLi
      have n7 : L 6 = false → L 7 = false := fun h => by cases h1 : L 7 with | false => rfl | true => (have := hdn.reach 1 7 6 (by kernel_rfl) h1; rw [h] at this; cases this)
      clear hdn
      have HK := Lib.hid hK
      have HI := Lib.hid hI
      obtain ⟨cb0, cb1, cb2⟩ := HS.out Y hI.low
      clear hK hI
      rcases (by omega : i = 0 ∨ i = 1 ∨ i = 2 ∨ i = 3 ∨ i = 4 ∨ i = 5 ∨ i = 6 ∨ i = 7 ∨ i = 8 ∨ i = 9) with rfl | rfl | rfl | rfl | rfl | rfl | rfl | rfl | rfl | rfl
      all_goals (simp at ho; subst ho; simp at hpre)
      · go_simp
        exact HK.out _ _ ⟨upd U 0 (.pointer (some ⟨w.heap.size, 0, none⟩)), by simp [upd], HI.out.pureStep rfl (by decide) (by decide) (by decide) (by decide)⟩
      · have e0 : U 0 = .pointer (some ⟨w.heap.size, 0, none⟩) := HI.out.pure 0 _ rfl (by simp [hpre])
        go_simp
        exact HK.out _ _ ⟨upd U 1 (.int .i64 x.kind), by simp [upd, e0], HI.out.pureStep rfl (by decide) (by decide) (by decide) (by decide)⟩
      · go_simp
        exact HK.out _ _ ⟨upd U 2 (.pointer (some ⟨w.heap.size, 1, none⟩)), by simp [upd], HI.out.pureStep rfl (by decide) (by decide) (by decide) (by decide)⟩
      · have e0 : U 2 = .pointer (some ⟨w.heap.size, 1, none⟩) := HI.out.pure 2 _ rfl (by simp [hpre])
        go_simp
        exact HK.out _ _ ⟨upd U 3 (.int .i64 x.tx), by simp [upd, e0], HI.out.pureStep rfl (by decide) (by decide) (by decide) (by decide)⟩
      · go_simp
        exact HK.out _ _ ⟨upd U 4 (.pointer (some ⟨w.heap.size, 2, none⟩)), by simp [upd], HI.out.pureStep rfl (by decide) (by decide) (by decide) (by decide)⟩
      · have e0 : U 4 = .pointer (some ⟨w.heap.size, 2, none⟩) := HI.out.pure 4 _ rfl (by simp [hpre])
        go_simp
        exact HK.out _ _ ⟨upd U 5 (.slice Au x.locks.length cu), by simp [upd, e0], HI.out.pureStep rfl (by decide) (by decide) (by decide) (by decide)⟩
      · have e0 : U 5 = .slice Au x.locks.length cu := HI.out.pure 5 _ rfl (by simp [hpre])
        go_simp
        go_at_call 135
        refine (cloneStr_any _ _ x.locks (HRw.out _ HI.out.low) hl1).mono ?_
        rintro e w3 ⟨ul, rfl, ho3, hb3⟩
        have HO3 := Lib.hid ho3; have HB3 := Lib.hid hb3; clear ho3 hb3
        go_simp
        exact HK.out _ _ ⟨upd U 6 ul, by simp [upd, e0], HI.out.callStep rfl (n7 hLi) (hd9 (by decide)) HO3.out HB3.out⟩
      · have l6 : L 6 = true := by simp [hpre]
        have e1 : U 1 = .int .i64 x.kind := HI.out.pure 1 _ rfl (by simp [hpre])
        have e3 : U 3 = .int .i64 x.tx := HI.out.pure 3 _ rfl (by simp [hpre])
        have h9 := hd9 (by decide)
        obtain ⟨A6, c6, e6⟩ : ∃ A c, U 6 = .slice A x.locks.length c := by obtain ⟨S, h3, _⟩ := HI.out.own h9 l6; obtain ⟨A, c, e2, _⟩ := h3.row.form; exact ⟨A, c, e2⟩
        go_simp
        exact HK.out _ _ ⟨upd U 7 (.agg #[.int .i64 x.kind, .int .i64 x.tx, U 6, .slice none 0 0]), by simp [upd, e1, e3, e6], HI.out.aggStep rfl⟩
      · go_simp
        exact HK.out _ _ ⟨upd U 8 (.pointer (some ⟨Y.heap.size, 0, none⟩)), by simp [upd], HI.out.boxStep _ rfl (hd9 (by decide))⟩
      · have l6 : L 6 = true := by simp [hpre]
        have l7 : L 7 = true := by simp [hpre]
        have l8 : L 8 = true := by simp [hpre]
        obtain ⟨q, A6, c6, e8, hq, e6, e7⟩ := HI.out.storeAt l6 l7 l8 hLi
        have x0 := hq.of 0 _ rfl; have x1 := hq.of 1 _ rfl; have x2 := hq.of 2 _ rfl; have x3 := hq.of 3 _ rfl; have y0 := hq.2.1 0; have y1 := hq.2.1 1; have y2 := hq.2.1 2; have y3 := hq.2.1 3
        clear hq
        go_simp
        exact HK.out _ _ ⟨U, by simp [e8, e7, e6], HI.out.storeStep rfl l6 l8 hLi e8 e6⟩
    case hend =>
      rintro L a Y hL ⟨U, rfl, hI⟩
      have HF := Lib.hid (hI.fin (hL 9 (by decide)))
      clear hI
      dsimp only
      go_wp2
      go_meet
      case rel => exact HF.out
  case rest =>
    obtain ⟨p, ul, rfl, hp, hH, hO, hB⟩ := hcut
    have b3 := (HB1.out.below hB HB1.out.1).of 3 _ rfl
    have HR := Lib.hid fun (y : World) (hy : Below W.heap.size W y) => HB2.out.below hy HB2.out.1
    have HLw := Lib.hid fun (y : World) (hy : Below W.heap.size W y) => HLow.out.trans (hy.mono (by omega))
    have HI := Lib.hid (show CnW W p x 0 wc from ⟨ul, none, 0, fun b => (W.heap.size ≤ b ∧ b ≠ p) ∧ b < wc.heap.size, fun _ => False, hH, hO.cap, Sh.Own.nil _ _, fun b hb => ⟨hb.1.1, hb.2, hb.1.2⟩, fun _ h => h.elim, fun _ _ h => h, hB⟩)
    have HVy := Lib.hid fun (y : World) (hy : Below W.heap.size W y) => HV.out.below (HLw.out y hy)
    have hWz2 : w.heap.size < W.heap.size := by omega
    clear hH hO hB HB1 HB2 HU HLow HV
    go_wp2
    go_loopw [17] (fun i wr => ∃ k : Nat, k ≤ x.writes.length ∧ i = .int .i64 k ∧ CnW W p x k wr) (fun i _ => x.writes.length - (intOf i).toNat)
    case atStart => exact ⟨0, Nat.zero_le _, rfl, HI.out⟩
    case round =>
      clear HI b3
      obtain ⟨k, hk, rfl, ul, A, c, Su, Sw, hH, hO, hOw, hSu, hSw, hd, hB⟩ := hrel
      by_cases hlt : k < x.writes.length
      · obtain ⟨b, off, c', y, A', n', d', e1, hx, hb, hs, d0, d1, d2, hi⟩ := wrs_at (HVy.out _ hB) hlt
        obtain ⟨A2, c2, e2, -, -⟩ := hi.form
        injection e2 with e2a e2b e2c
        subst e2b
        injection e1 with e1a e1b e1c
        subst e1a
        have hyl : y.val.length ≤ 1048576 := hl3 y (List.mem_of_getElem? hx)
        have htl : (x.writes.take k).length ≤ 1048576 := by rw [List.length_take]; omega
        have hbW : W.heap.size ≤ wr.heap.size := hB.size
        have hpr : p < wr.heap.size := hH.1
        have HX := Lib.hid (Held.new wr #[.string y.key, .bool y.del, .slice A' y.val.length d'] 86)
        have HH := Lib.hid (hH.after (.cells #[.string y.key, .bool y.del, .slice A' y.val.length d'] 86))
        have HO := Lib.hid (hO.below (belowOne wr (.cells #[.string y.key, .bool y.del, .slice A' y.val.length d'] 86)))
        have HOw := Lib.hid (hOw.below (belowOne wr (.cells #[.string y.key, .bool y.del, .slice A' y.val.length d'] 86)))
        have HBw := Lib.hid (hB.alloc hB.size (.cells #[.string y.key, .bool y.del, .slice A' y.val.length d'] 86))
        have HIy := Lib.hid (show Ints ((wr.alloc (.cells #[.string y.key, .bool y.del, .slice A' y.val.length d'] 86)).drew) w.heap.size (.slice A' y.val.length d') y.val from hi.alloc (by omega) _)
        have HSu := Lib.hid hSu
        have HSw := Lib.hid hSw
        have HD := Lib.hid hd
        have HI := Lib.hid hx
        clear e1b e1c e2a e2c hH hO hOw hB hi hSu hSw hd hx
        go_wp2
        have k0 : (wr.alloc (.cells #[.string y.key, .bool y.del, .slice A' y.val.length d'] 86)).drew.cell? ⟨p, 3, none⟩ = some (.slice A k c) ∧ (wr.alloc (.cells #[.string y.key, .bool y.del, .slice A' y.val.length d'] 86)).drew.cell? ⟨wr.heap.size, 0, none⟩ = some (.string y.key) ∧ (wr.alloc (.cells #[.string y.key, .bool y.del, .slice A' y.val.length d'] 86)).drew.cell? ⟨wr.heap.size, 1, none⟩ = some (.bool y.del) ∧ (wr.alloc (.cells #[.string y.key, .bool y.del, .slice A' y.val.length d'] 86)).drew.cell? ⟨wr.heap.size, 2, none⟩ = some (.slice A' y.val.length d') := ⟨HH.out.of 3 _ rfl, HX.out.of 0 _ rfl, HX.out.of 1 _ rfl, HX.out.of 2 _ rfl⟩
        refine region_l (S := (fun w' => w'.cell? ⟨p, 3, none⟩ = some (.slice A k c) ∧ w'.cell? ⟨wr.heap.size, 0, none⟩ = some (.string y.key) ∧ w'.cell? ⟨wr.heap.size, 1, none⟩ = some (.bool y.del) ∧ w'.cell? ⟨wr.heap.size, 2, none⟩ = some (.slice A' y.val.length d'))) 13 (by kernel_rfl) ?hSr (fun hHeldr => ?str)
        case hSr => (first | (dsimp only; (first | with_reducible exact k3 | with_reducible exact k2 | with_reducible exact k1 | exact k0)) | (first | with_reducible exact k3 | with_reducible exact k2 | with_reducible exact k1 | exact k0))
        refine take_l 0 21 (v := ?vr_1) rfl rfl (by kernel_rfl) (by kernel_rfl) (by kernel_rfl) (by kernel_rfl) (fun _ _ _ h => h) (by rfl) ?yr_1 (by assumption) ?rr_1
        case yr_1 => (intro w hSw; (try dsimp only at hSw); go_simp; (try with_reducible rfl))
        simp only [Act.put, List.setIfInBounds_toArray, List.set_cons_zero, List.set_cons_succ]
        refine take_l 1 22 (v := ?vr_2) rfl rfl (by kernel_rfl) (by kernel_rfl) (by kernel_rfl) (by kernel_rfl) (fun _ _ _ h => h) (by rfl) ?yr_2 (by assumption) ?rr_2
        case yr_2 => (intro w hSw; (try dsimp only at hSw); go_simp; (try with_reducible rfl))
        simp only [Act.put, List.setIfInBounds_toArray, List.set_cons_zero, List.set_cons_succ]
        refine take_l 2 23 (v := ?vr_3) rfl rfl (by kernel_rfl) (by kernel_rfl) (by kernel_rfl) (by kernel_rfl) (fun _ _ _ h => h) (by rfl) ?yr_3 (by assumption) ?rr_3
        case yr_3 => (intro w hSw; (try dsimp only at hSw); go_simp; (try with_reducible rfl))
        simp only [Act.put, List.setIfInBounds_toArray, List.set_cons_zero, List.set_cons_succ]
        refine take_l 3 24 (v := ?vr_4) rfl rfl (by kernel_rfl) (by kernel_rfl) (by kernel_rfl) (by kernel_rfl) (fun _ _ _ h => h) (by rfl) ?yr_4 (by assumption) ?rr_4
        case yr_4 => (intro w hSw; (try dsimp only at hSw); go_simp; (try with_reducible rfl))
        simp only [Act.put, List.setIfInBounds_toArray, List.set_cons_zero, List.set_cons_succ]
        refine take_l 4 25 (v := ?vr_5) rfl rfl (by kernel_rfl) (by kernel_rfl) (by kernel_rfl) (by kernel_rfl) (fun _ _ _ h => h) (by rfl) ?yr_5 (by assumption) ?rr_5
        case yr_5 => (intro w hSw; (try dsimp only at hSw); go_simp; (try with_reducible rfl))
        simp only [Act.put, List.setIfInBounds_toArray, List.set_cons_zero, List.set_cons_succ]
        refine take_l 5 26 (v := ?vr_6) rfl rfl (by kernel_rfl) (by kernel_rfl) (by kernel_rfl) (by kernel_rfl) (fun _ _ _ h => h) (by rfl) ?yr_6 (by assumption) ?rr_6
        case yr_6 => (intro w hSw; (try dsimp only at hSw); go_simp; (try with_reducible rfl))
        simp only [Act.put, List.setIfInBounds_toArray, List.set_cons_zero, List.set_cons_succ]
        refine take_l 6 27 (v := ?vr_7) rfl rfl (by kernel_rfl) (by kernel_rfl) (by kernel_rfl) (by kernel_rfl) (fun _ _ _ h => h) (by rfl) ?yr_7 (by assumption) ?rr_7
        case yr_7 => (intro w hSw; (try dsimp only at hSw); go_simp; (try with_reducible rfl))
        simp only [Act.put, List.setIfInBounds_toArray, List.set_cons_zero, List.set_cons_succ]
        refine take_l 7 28 (v := ?vr_8) rfl rfl (by kernel_rfl) (by kernel_rfl) (by kernel_rfl) (by kernel_rfl) (fun _ _ _ h => h) (by rfl) ?yr_8 (by assumption) ?rr_8
        case yr_8 => (intro w hSw; (try dsimp only at hSw); go_simp; (try with_reducible rfl))
        simp only [Act.put, List.setIfInBounds_toArray, List.set_cons_zero, List.set_cons_succ]
        refine one_l 8 rfl (by kernel_rfl) (fun Kr_9 hKr_9 => ?cr_9)
        go_simp
        refine (clone_sh _ _ y.val (HIy.out.more (by show _ ≤ (World.alloc _ _).heap.size; simp; omega)) hyl).mono ?_; rintro e w1 ⟨u1, rfl, hu1, hb1⟩; obtain ⟨A1, c1, hf1, -, -⟩ := hu1.row.form; subst hf1; have HX1 := Lib.hid (HX.out.onward hb1 rfl); have HH1 := Lib.hid (HH.out.onward hb1 rfl); have k1 := And.intro (HH1.out.of 3 _ rfl) (And.intro (HX1.out.of 0 _ rfl) (And.intro (HX1.out.of 1 _ rfl) (HX1.out.of 2 _ rfl))); have HX2 := Lib.hid (HX1.out.after (.cells #[.string y.key, .bool y.del, .slice A1 y.val.length c1] 86)); have HH2 := Lib.hid (HH1.out.after (.cells #[.string y.key, .bool y.del, .slice A1 y.val.length c1] 86)); have k2 := And.intro (HH2.out.of 3 _ rfl) (And.intro (HX2.out.of 0 _ rfl) (And.intro (HX2.out.of 1 _ rfl) (HX2.out.of 2 _ rfl))); have HO2 := Lib.hid ((Sh.Own.below (w := (wr.alloc (.cells #[.string y.key, .bool y.del, .slice A' y.val.length d'] 86)).drew) HO.out hb1).below (belowOne w1 (.cells #[.string y.key, .bool y.del, .slice A1 y.val.length c1] 86))); have HW2 := Lib.hid ((Sh.Own.below (w := (wr.alloc (.cells #[.string y.key, .bool y.del, .slice A' y.val.length d'] 86)).drew) HOw.out hb1).below (belowOne w1 (.cells #[.string y.key, .bool y.del, .slice A1 y.val.length c1] 86))); have hz1 : wr.heap.size < w1.heap.size := HX1.out.1; have HB2 := Lib.hid ((HBw.out.drew.trans (hb1.mono (by show _ ≤ (World.alloc _ _).heap.size; simp; omega))).alloc (by omega) (.cells #[.string y.key, .bool y.del, .slice A1 y.val.length c1] 86)); have HU2 := Lib.hid (Sh.Own.mono (S' := fun b => wr.heap.size < b ∧ b < w1.heap.size) (hu1.below (belowOne w1 (.cells #[.string y.key, .bool y.del, .slice A1 y.val.length c1] 86))) (fun b hb => ⟨by have h := hb.1; have h2 : (wr.alloc (.cells #[.string y.key, .bool y.del, .slice A' y.val.length d'] 86)).drew.heap.size = wr.heap.size + 1 := (by show (World.alloc _ _).heap.size = _; simp); omega, hb.2⟩)); clear hu1 hb1
        go_wp2_with fail
        refine hKr_9.out _ _ ?kr_9 (fun hHoldr_9 => ?dr_9)
        case kr_9 => (intro _; (first | (dsimp only; (first | with_reducible exact k3 | with_reducible exact k2 | with_reducible exact k1 | exact k0)) | (first | with_reducible exact k3 | with_reducible exact k2 | with_reducible exact k1 | exact k0)))
        clear hKr_9 Kr_9
        have hHeldr_9 := hHoldr_9 (by decide)
        clear hHoldr_9
        refine take_l 9 30 (v := ?vr_10) rfl rfl (by kernel_rfl) (by kernel_rfl) (by kernel_rfl) (by kernel_rfl) (fun _ _ _ h => h) (by rfl) ?yr_10 (by assumption) ?rr_10
        case yr_10 => (intro w hSw; (try dsimp only at hSw); go_simp; (try with_reducible rfl))
        simp only [Act.put, List.setIfInBounds_toArray, List.set_cons_zero, List.set_cons_succ]
        refine one_l 10 rfl (by kernel_rfl) (fun Kr_11 hKr_11 => ?cr_11)
        go_simp
        skip
        go_wp2_with fail
        refine hKr_11.out _ _ ?kr_11 (fun hHoldr_11 => ?dr_11)
        case kr_11 => (intro _; (first | (dsimp only; (first | with_reducible exact k3 | with_reducible exact k2 | with_reducible exact k1 | exact k0)) | (first | with_reducible exact k3 | with_reducible exact k2 | with_reducible exact k1 | exact k0)))
        clear hKr_11 Kr_11
        have hHeldr_11 := hHoldr_11 (by decide)
        clear hHoldr_11
        refine one_l 11 rfl (by kernel_rfl) (fun Kr_12 hKr_12 => ?cr_12)
        rw [if_pos (by rfl)]
        refine app_one wrSh 34 86 _ 48 Try.underlying34 infoWrC rfl (by decide) (by omega) (.tmp 22) (.tmp 31) rfl Sw _ _ (x.writes.take k) rfl HW2.out w1.heap.size rfl [.string y.key, .bool y.del, .slice A1 y.val.length c1] y (wr_own.2 ⟨_, rfl, hs, HU2.out⟩) (Held.new w1 _ _) (fun b hb hb2 => by have := HSw.out b hb; have := hb2.1; omega) htl ?_; intro v3 w3 ho3 hg3 _; obtain ⟨A3, c3, hf3, -, -⟩ := ho3.row.form; subst hf3; have HX3 := Lib.hid (HX2.out.outs (Outs.of_grown (S := Sw) hg3 (HW2.out.blk)) (fun h => by have := HSw.out _ h; omega)); have HH3 := Lib.hid (HH2.out.outs (Outs.of_grown (S := Sw) hg3 (HW2.out.blk)) (fun h => (HSw.out _ h).2.2 rfl)); have f3 := HH3.out.2.1 3; have k3 := And.intro (HH3.out.of 3 _ rfl) (And.intro (HX3.out.of 0 _ rfl) (And.intro (HX3.out.of 1 _ rfl) (HX3.out.of 2 _ rfl))); have HO3 := Lib.hid ho3.cap; have HG3 := Lib.hid hg3; clear ho3 hg3
        refine hKr_12.out _ _ ?kr_12 (fun hHoldr_12 => ?dr_12)
        case kr_12 => (intro _; (first | (dsimp only; (first | with_reducible exact k3 | with_reducible exact k2 | with_reducible exact k1 | exact k0)) | (first | with_reducible exact k3 | with_reducible exact k2 | with_reducible exact k1 | exact k0)))
        clear hKr_12 Kr_12
        have hHeldr_12 := hHoldr_12 (by decide)
        clear hHoldr_12
        refine take_l 12 33 (v := ?vr_13) rfl rfl (by kernel_rfl) (by kernel_rfl) (by kernel_rfl) (by kernel_rfl) (fun _ _ _ h => h) (by rfl) ?yr_13 (by assumption) ?rr_13
        case yr_13 => (intro w hSw; (try dsimp only at hSw); go_simp; (try with_reducible rfl))
        simp only [Act.put, List.setIfInBounds_toArray]
        refine one_l 13 rfl (by kernel_rfl) (fun Kr_14 hKr_14 => ?cr_14)
        go_simp
        skip
        go_wp2_with fail
        refine hKr_14.out _ _ ?kr_14 (fun hHoldr_14 => ?dr_14)
        case kr_14 => exact fun h => absurd rfl h
        clear hKr_14 Kr_14
        clear hHoldr_14
        refine done_l (by kernel_rfl) ?er _
        have HB3 := Lib.hid (HB2.out.grown HG3.out (by simp; omega) (fun q hq => (HSw.out _ (HW2.out.blk q hq)).1))
        have hz3 := HG3.out.size
        rw [allocSize] at hz3
        have HL3 := Lib.hid (HO2.out.keep (w' := w3) fun b hb hlt => HG3.out.block b hlt fun e => HD.out b hb (HW2.out.blk b e.symm))
        have htk := take_snoc HI.out
        rw [List.length_append, List.length_take, Nat.min_eq_left hk, ← htk] at HO3
        have hp3 : W.heap.size ≤ p := hp
        have HN := Lib.hid (show CnW W p x (k + 1) (w3.setCell ⟨p, 3, none⟩ (.slice A3 (k + 1) c3)) from by
          have hzs : (w3.setCell ⟨p, 3, none⟩ (.slice A3 (k + 1) c3)).heap.size = w3.heap.size := by simp [World.setCell]
          have hset : ∀ b, (Sw b ∨ (wr.heap.size < b ∧ b < w1.heap.size) ∨ b = (w1.alloc (.cells #[.string y.key, .bool y.del, .slice A1 y.val.length c1] 86)).heap.size) ∧ b < w3.heap.size → W.heap.size ≤ b ∧ b < w3.heap.size ∧ b ≠ p ∧ ¬ Su b := fun b hb => by
            rcases hb.1 with h | h | h
            · have := HSw.out b h; exact ⟨this.1, hb.2, this.2.2, fun h2 => HD.out b h2 h⟩
            · exact ⟨by omega, hb.2, by omega, fun h2 => by have := (HSu.out b h2).2.1; omega⟩
            · rw [allocSize] at h; exact ⟨by omega, hb.2, by omega, fun h2 => by have := (HSu.out b h2).2.1; omega⟩
          refine ⟨ul, A3, c3, Su, _, HH3.out.set_ (i := 3) (.slice A3 (k + 1) c3), (HL3.out.keep fun b hb _ => Below.heap_setCell _ _ _ _ (HSu.out b hb).2.2), (HO3.out.keep fun b hb _ => Below.heap_setCell _ _ _ _ (hset b hb).2.2.1), fun b hb => ⟨(HSu.out b hb).1, by have := (HSu.out b hb).2.1; rw [hzs]; omega, (HSu.out b hb).2.2⟩, fun b hb => ⟨(hset b hb).1, by rw [hzs]; exact (hset b hb).2.1, (hset b hb).2.2.1⟩, fun b hb hb2 => (hset b hb2).2.2.2 hb, HB3.out.setCell hp3 _⟩)
        clear htk
        go_wp2
        go_roundw
        case rel => exact ⟨k + 1, by omega, by go_num, HN.out⟩
        case measure => simp [intOf]; omega
      · obtain rfl : k = x.writes.length := by omega
        have hOw' : wrSh.Own 86 wr Sw (.slice A x.writes.length c) x.writes := by rw [List.take_length] at hOw; exact hOw
        obtain ⟨Al, cl, rfl, -, -⟩ := hO.row.form
        have g0 := hH.of 0 _ rfl
        have g1 := hH.of 1 _ rfl
        have g2 := hH.of 2 _ rfl
        have g3 := hH.of 3 _ rfl
        have hR := HR.out _ hB
        have r0 := hR.of 0 _ rfl
        have r1 := hR.of 1 _ rfl
        have r2 := hR.of 2 _ rfl
        have r3 := hR.of 3 _ rfl
        have rf := hR.2.1
        have HRr := Lib.hid hR
        have HO := Lib.hid hO
        have HOw := Lib.hid hOw'
        have HSu := Lib.hid hSu
        have HSw := Lib.hid hSw
        have HD := Lib.hid hd
        have HB := Lib.hid (HLw.out _ hB)
        have hbW : W.heap.size ≤ wr.heap.size := hB.size
        clear hR hO hOw hOw' hSu hSw hd hB hH
        go_wp2
        have HQ := HRr.out.put4 (.int .i64 x.kind) (.int .i64 x.tx) (.slice Al x.locks.length cl) (.slice A x.writes.length c)
        have q0 := HQ.of 0 _ rfl
        have q1 := HQ.of 1 _ rfl
        have q2 := HQ.of 2 _ rfl
        have q3 := HQ.of 3 _ rfl
        have hfar : ∀ b, b ≠ w.heap.size + 1 → (put4 wr (w.heap.size + 1) (.int .i64 x.kind) (.int .i64 x.tx) (.slice Al x.locks.length cl) (.slice A x.writes.length c)).heap[b]? = wr.heap[b]? := fun b hb => put4_far _ _ _ _ _ _ hb
        refine bodyPost_ret (v := .agg #[.int .i64 x.kind, .int .i64 x.tx, .slice Al x.locks.length cl, .slice A x.writes.length c]) (by simp only [results, Try.results111, go_sem]; simp [go_sem, q0, q1, q2, q3]) rfl ⟨_, rfl, ?_, belowPut4 HB.out (w.heap.size + 1) (by omega) _ _ _ _⟩
        exact note_own.2 ⟨_, _, Su, Sw, rfl, HO.out.keep fun b hb _ => hfar b (by have := HSu.out b hb; omega), HOw.out.keep fun b hb _ => hfar b (by have := HSw.out b hb; omega), fun b hb => by have := HSu.out b hb; rw [put4_size]; omega, fun b hb => by have := HSw.out b hb; rw [put4_size]; omega, fun b h1 h2 => HD.out b h1 h2⟩

end Go.Proofs.Ytkamlibfcakblaa
