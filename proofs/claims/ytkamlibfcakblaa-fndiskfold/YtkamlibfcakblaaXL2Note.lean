/- The model's copy of a note, and of a place's notes. -/
import Derived.Test.YtkamlibfcakblaaXCopyNote
import Derived.Test.YtkamlibfcakblaaXStoMap
namespace Go.Proofs.Ytkamlibfcakblaa
open Go.RowKit

/-- What holds while the first region goes on. -/
structure L2I (W : World) (x : Note) (pv : Nat → Option Value) (L : Nat → Bool) (Y : World) (U : Nat → Value) : Prop where
  low : Below W.heap.size W Y
  pure : ∀ j v, pv j = some v → L j = true → U j = v
  nil : L 10 = false → L 4 = true → L 7 = false → ∃ S, strSh.Own 9 Y S (U 4) [] ∧ ∀ b, S b → W.heap.size ≤ b ∧ b < Y.heap.size ∧ (L 9 = true → U 9 ≠ .pointer (some ⟨b, 0, none⟩))
  own : L 10 = false → L 7 = true → ∃ S, strSh.Own 9 Y S (U 7) x.locks ∧ ∀ b, S b → W.heap.size ≤ b ∧ b < Y.heap.size ∧ (L 9 = true → U 9 ≠ .pointer (some ⟨b, 0, none⟩))
  agg : L 8 = true → U 8 = .agg #[.int .i64 x.kind, .int .i64 x.tx, U 7, .slice none 0 0]
  box : L 10 = false → L 9 = true → ∃ q, U 9 = .pointer (some ⟨q, 0, none⟩) ∧ W.heap.size ≤ q ∧ Held Y q [.int .i64 0, .int .i64 0, .slice none 0 0, .slice none 0 0]
  fin : L 10 = true → Boxd W x (U 9) Y
def l2Inv (F : (Nat → Value) → Array Value) (W : World) (x : Note) (pv : Nat → Option Value) (L : Nat → Bool) (a : Act) (Y : World) : Prop := ∃ U, a = { tmps := F U, defers := [] } ∧ L2I W x pv L Y U
theorem ptr_ne {a b : Nat} (h : a ≠ b) : (Value.pointer (some ⟨a, 0, none⟩)) ≠ .pointer (some ⟨b, 0, none⟩) := by
  intro he; injection he with he; injection he with he; injection he with he; exact h he
section
variable {W Y Y' : World} {x : Note} {pv : Nat → Option Value} {L : Nat → Bool} {U : Nat → Value}
theorem L2I.pures (h : L2I W x pv L Y U) {i : Nat} {u : Value} (hpv : ∀ v, pv i = some v → u = v) : ∀ j v, pv j = some v → upd L i true j = true → upd U i u j = v := fun j v hj hL => by
  by_cases hji : j = i
  · subst hji; rw [upd_same]; exact hpv v hj
  · rw [upd_other _ _ hji] at hL ⊢; exact h.pure j v hj hL
theorem L2I.pureStep (h : L2I W x pv L Y U) {i : Nat} {v : Value} (hi : pv i = some v) (h4 : i ≠ 4) (h7 : i ≠ 7) (h8 : i ≠ 8) (h9 : i ≠ 9) (h10 : i ≠ 10) : L2I W x pv (upd L i true) Y (upd U i v) := by
  have g : ∀ {j}, i ≠ j → upd L i true j = L j ∧ upd U i v j = U j := fun h => ⟨upd_other _ _ (Ne.symm h), upd_other _ _ (Ne.symm h)⟩
  refine ⟨h.low, h.pures (fun u e => by rw [hi] at e; injection e), ?_, ?_, ?_, ?_, ?_⟩
  · rw [(g h10).1, (g h4).1, (g h7).1, (g h4).2, (g h9).1, (g h9).2]; exact h.nil
  · rw [(g h10).1, (g h7).1, (g h7).2, (g h9).1, (g h9).2]; exact h.own
  · rw [(g h8).1, (g h8).2, (g h7).2]; exact h.agg
  · rw [(g h10).1, (g h9).1, (g h9).2]; exact h.box
  · rw [(g h10).1, (g h9).2]; exact h.fin
theorem L2I.litStep (h : L2I W x pv L Y U) (hpv : pv 4 = none) (h7 : L 7 = false) (h10 : L 10 = false) : L2I W x pv (upd L 4 true) (Y.alloc (.cells #[] 9)) (upd U 4 (.slice (some ⟨Y.heap.size, 0, none⟩) 0 0)) := by
  have hz := h.low.size
  have g : ∀ {j}, 4 ≠ j → upd L 4 true j = L j ∧ upd U 4 (.slice (some ⟨Y.heap.size, 0, none⟩) 0 0) j = U j := fun h => ⟨upd_other _ _ (Ne.symm h), upd_other _ _ (Ne.symm h)⟩
  have g7 := g (by decide : (4 : Nat) ≠ 7)
  have g8 := g (by decide : (4 : Nat) ≠ 8)
  have g9 := g (by decide : (4 : Nat) ≠ 9)
  have g10 := g (by decide : (4 : Nat) ≠ 10)
  refine ⟨h.low.alloc hz _, h.pures (fun u e => by rw [hpv] at e; cases e), fun _ _ _ => ⟨fun b => b = Y.heap.size, by rw [upd_same]; exact Sh.Own.lit0 strSh 9 Y, fun b hb => ⟨by omega, by simp; omega, fun hh => ?_⟩⟩, fun _ hh => ?_, ?_, fun _ hh => ?_, fun hh => ?_⟩
  · rw [g9.1] at hh
    obtain ⟨q, e, _, h4⟩ := h.box h10 hh
    rw [g9.2, e]
    exact ptr_ne (by have := h4.1; omega)
  · rw [g7.1, h7] at hh; cases hh
  · rw [g8.1, g8.2, g7.2]; exact h.agg
  · rw [g9.1] at hh
    obtain ⟨q, e, h3, h4⟩ := h.box h10 hh
    exact ⟨q, by rw [g9.2]; exact e, h3, h4.after _⟩
  · rw [g10.1, h10] at hh; cases hh
theorem L2I.appStep (h : L2I W x pv L Y U) {S : Nat → Prop} {u : Value} (hpv : pv 7 = none) (h8 : L 8 = false) (h10 : L 10 = false) (hS : ∀ b, S b → W.heap.size ≤ b ∧ b < Y.heap.size ∧ (L 9 = true → U 9 ≠ .pointer (some ⟨b, 0, none⟩))) {v0 : Value} (hv0 : ∀ g, v0.ownBlock = some g → S g)
    (ho : strSh.Own 9 Y' (fun b => S b ∨ b = Y.heap.size) u x.locks) (hg : Y.grownBy Y' v0.ownBlock) : L2I W x pv (upd L 7 true) Y' (upd U 7 u) := by
  have hz := h.low.size
  have g : ∀ {j}, 7 ≠ j → upd L 7 true j = L j ∧ upd U 7 u j = U j := fun h => ⟨upd_other _ _ (Ne.symm h), upd_other _ _ (Ne.symm h)⟩
  have g8 := g (by decide : (7 : Nat) ≠ 8)
  have g9 := g (by decide : (7 : Nat) ≠ 9)
  have g10 := g (by decide : (7 : Nat) ≠ 10)
  have hne : L 9 = true → ∀ q, U 9 = .pointer (some ⟨q, 0, none⟩) → v0.ownBlock ≠ some q := fun h9 q hq e => (hS q (hv0 q e)).2.2 h9 hq
  refine ⟨h.low.grown hg hz (fun k e => (hS k (hv0 k e)).1), h.pures (fun u e => by rw [hpv] at e; cases e), fun _ _ hh => ?_, fun _ _ => ⟨fun b => (S b ∨ b = Y.heap.size) ∧ b < Y'.heap.size, by rw [upd_same]; exact ho.cap, fun b hb => ⟨?_, hb.2, fun hh => ?_⟩⟩, fun hh => ?_, fun _ hh => ?_, fun hh => ?_⟩
  · rw [upd_same] at hh; cases hh
  · rcases hb.1 with h1 | h1
    · exact (hS b h1).1
    · omega
  · rw [g9.1] at hh
    rw [g9.2]
    rcases hb.1 with h1 | h1
    · exact (hS b h1).2.2 hh
    · obtain ⟨q, e, _, h4⟩ := h.box h10 hh
      rw [e]
      exact ptr_ne (by have := h4.1; omega)
  · rw [g8.1, h8] at hh; cases hh
  · rw [g9.1] at hh
    obtain ⟨q, e, h3, h4⟩ := h.box h10 hh
    exact ⟨q, by rw [g9.2]; exact e, h3, h4.outs (Outs.of_grown (S := fun b => v0.ownBlock = some b) hg (fun _ e => e)) (hne hh q e)⟩
  · rw [g10.1, h10] at hh; cases hh
theorem L2I.aggStep (h : L2I W x pv L Y U) (hpv : pv 8 = none) : L2I W x pv (upd L 8 true) Y (upd U 8 (.agg #[.int .i64 x.kind, .int .i64 x.tx, U 7, .slice none 0 0])) := by
  have g : ∀ {j}, 8 ≠ j → upd L 8 true j = L j ∧ upd U 8 (.agg #[.int .i64 x.kind, .int .i64 x.tx, U 7, .slice none 0 0]) j = U j := fun h => ⟨upd_other _ _ (Ne.symm h), upd_other _ _ (Ne.symm h)⟩
  have g4 := g (by decide : (8 : Nat) ≠ 4)
  have g7 := g (by decide : (8 : Nat) ≠ 7)
  have g9 := g (by decide : (8 : Nat) ≠ 9)
  have g10 := g (by decide : (8 : Nat) ≠ 10)
  refine ⟨h.low, h.pures (fun u e => by rw [hpv] at e; cases e), ?_, ?_, fun _ => ?_, ?_, ?_⟩
  · rw [g10.1, g4.1, g7.1, g4.2, g9.1, g9.2]; exact h.nil
  · rw [g10.1, g7.1, g7.2, g9.1, g9.2]; exact h.own
  · rw [upd_same, g7.2]
  · rw [g10.1, g9.1, g9.2]; exact h.box
  · rw [g10.1, g9.2]; exact h.fin
theorem L2I.boxStep (h : L2I W x pv L Y U) (t : TypeId) (hpv : pv 9 = none) (h10 : L 10 = false) : L2I W x pv (upd L 9 true) (Y.alloc (.cells #[.int .i64 0, .int .i64 0, .slice none 0 0, .slice none 0 0] t)) (upd U 9 (.pointer (some ⟨Y.heap.size, 0, none⟩))) := by
  have hz := h.low.size
  have g : ∀ {j}, 9 ≠ j → upd L 9 true j = L j ∧ upd U 9 (.pointer (some ⟨Y.heap.size, 0, none⟩)) j = U j := fun h => ⟨upd_other _ _ (Ne.symm h), upd_other _ _ (Ne.symm h)⟩
  have g4 := g (by decide : (9 : Nat) ≠ 4)
  have g7 := g (by decide : (9 : Nat) ≠ 7)
  have g8 := g (by decide : (9 : Nat) ≠ 8)
  have g10 := g (by decide : (9 : Nat) ≠ 10)
  refine ⟨h.low.alloc hz _, h.pures (fun u e => by rw [hpv] at e; cases e), fun _ h4 h7 => ?_, fun _ h7 => ?_, ?_, fun _ _ => ⟨Y.heap.size, upd_same _ _ _, hz, Held.new Y #[.int .i64 0, .int .i64 0, .slice none 0 0, .slice none 0 0] t⟩, fun hh => ?_⟩
  · rw [g4.1] at h4; rw [g7.1] at h7
    obtain ⟨S, h1, h2⟩ := h.nil h10 h4 h7
    exact ⟨S, by rw [g4.2]; exact h1.below (belowOne Y _), fun b hb => ⟨(h2 b hb).1, by have := (h2 b hb).2.1; simp; omega, fun _ => by rw [upd_same]; exact ptr_ne (by have := (h2 b hb).2.1; omega)⟩⟩
  · rw [g7.1] at h7
    obtain ⟨S, h1, h2⟩ := h.own h10 h7
    exact ⟨S, by rw [g7.2]; exact h1.below (belowOne Y _), fun b hb => ⟨(h2 b hb).1, by have := (h2 b hb).2.1; simp; omega, fun _ => by rw [upd_same]; exact ptr_ne (by have := (h2 b hb).2.1; omega)⟩⟩
  · rw [g8.1, g8.2, g7.2]; exact h.agg
  · rw [g10.1, h10] at hh; cases hh
theorem L2I.storeAt (h : L2I W x pv L Y U) (h7 : L 7 = true) (h8 : L 8 = true) (h9 : L 9 = true) (h10 : L 10 = false) : ∃ q A c, U 9 = .pointer (some ⟨q, 0, none⟩) ∧ Held Y q [.int .i64 0, .int .i64 0, .slice none 0 0, .slice none 0 0] ∧ U 7 = .slice A x.locks.length c ∧ U 8 = .agg #[.int .i64 x.kind, .int .i64 x.tx, .slice A x.locks.length c, .slice none 0 0] := by
  obtain ⟨q, e1, _, h2⟩ := h.box h10 h9
  obtain ⟨S, h3, _⟩ := h.own h10 h7
  obtain ⟨A, c, e2, _⟩ := h3.row.form
  have h4 := h.agg h8
  rw [e2] at h4
  exact ⟨q, A, c, e1, h2, e2, h4⟩
theorem L2I.storeStep (h : L2I W x pv L Y U) {q : Nat} {A : Option Addr} {c : Nat} (hpv : pv 10 = none) (h7 : L 7 = true) (h9 : L 9 = true) (h10 : L 10 = false) (hq : U 9 = .pointer (some ⟨q, 0, none⟩)) (hu : U 7 = .slice A x.locks.length c) :
    L2I W x pv (upd L 10 true) (put4 Y q (.int .i64 x.kind) (.int .i64 x.tx) (.slice A x.locks.length c) (.slice none 0 0)) U := by
  obtain ⟨q', e1, h1, h2⟩ := h.box h10 h9
  rw [hq] at e1
  injection e1 with e1; injection e1 with e1; injection e1 with e1
  subst e1
  obtain ⟨S, h3, h4⟩ := h.own h10 h7
  rw [hu] at h3
  have g : ∀ {j}, 10 ≠ j → upd L 10 true j = L j := fun h => upd_other _ _ (Ne.symm h)
  have hne : ∀ b, S b → b ≠ q := fun b hb he => (h4 b hb).2.2 h9 (by rw [hq, he])
  have hlow := belowPut4 h.low q h1 (.int .i64 x.kind) (.int .i64 x.tx) (.slice A x.locks.length c) (.slice none 0 0)
  refine ⟨hlow, fun j v hj hL => ?_, fun hh => ?_, fun hh => ?_, ?_, fun hh => ?_, fun _ => ⟨q, .slice A x.locks.length c, hq, h1, h2.put4 _ _ _ _, ?_, hlow⟩⟩
  · by_cases hji : j = 10
    · subst hji; rw [hpv] at hj; cases hj
    · rw [upd_other _ _ hji] at hL; exact h.pure j v hj hL
  · rw [upd_same] at hh; cases hh
  · rw [upd_same] at hh; cases hh
  · rw [g (by decide)]; exact h.agg
  · rw [upd_same] at hh; cases hh
  · exact (h3.keep fun b hb _ => put4_far _ _ _ _ _ _ (hne b hb)).mono fun b hb => ⟨(h4 b hb).1, hne b hb⟩
end
theorem app_strs {o : Oper} {a : Act} {w : World} {K : Act → World → Prop} {Q : Exit → Act → World → Prop} (s x : Operand)
    (ho : o.op = .call { callee := .builtin .append, args := #[s, x], argTypes := #[33, 33] }) (S : Nat → Prop) (v : Value) (xs ys : List ByteArray) (hs : a.eval s = v) (hv : strSh.Own 9 w S v xs)
    (B : Nat) (Ad : Option Addr) (n c : Nat) (hx : a.eval x = .slice Ad n c) (hn : n = ys.length) (hy : strSh.Row w B (.slice Ad n c) ys) (hl : xs.length + ys.length ≤ 2097152)
    (h : ∀ v' w', strSh.Own 9 w' (fun b => S b ∨ b = w.heap.size) v' (xs ++ ys) → w.grownBy w' v.ownBlock → K (a.put o.dst v') w') : Oper.wp Try.prog o a w K Q := by
  obtain ⟨v', w', hr, h2, h3, h4⟩ := append_strs w S v xs ys hv B Ad n c hn hy o.type hl
  unfold Oper.wp execOp
  simp only [ho, resolve, invoke, builtin, Sem.run_bind, Sem.run_pure, Result.andThen_ok, List.map_toArray, List.map_cons, List.map_nil, hs, hx, hr]
  exact h v' w' h2 h3

set_option maxRecDepth 100000 in
set_option maxHeartbeats 2000000 in
theorem l2Note_any (w : World) (x : Note) (cs : List Value) (hr : noteSh.rel w w.heap.size cs x) (hl1 : x.locks.length ≤ 1048576) (hl2 : x.writes.length ≤ 1048576) (hl3 : ∀ y ∈ x.writes, y.val.length ≤ 1048576) :
    Calls Try.prog 79 #[.agg cs.toArray] w fun e w' => ∃ cs', e = .returned (.agg cs'.toArray) ∧ noteSh.own w' (fun b => w.heap.size ≤ b ∧ b < w'.heap.size) cs' x ∧ Below w.heap.size w w' := by
  obtain ⟨u, v, rfl, hu, hv⟩ := note_rel.1 hr
  obtain ⟨Au, cu, rfl, hu2, hu1⟩ := hu.form
  obtain ⟨Av, cv, rfl, hv2, hv1⟩ := hv.form
  have HB1 := Lib.hid ((Held.new w #[.int .i64 x.kind, .int .i64 x.tx, .slice Au x.locks.length cu, .slice Av x.writes.length cv] 36).after (.cells #[.int .i64 0, .int .i64 0, .slice none 0 0, .slice none 0 0] 36))
  have HB2 := Lib.hid (show Held ((w.alloc (.cells #[.int .i64 x.kind, .int .i64 x.tx, .slice Au x.locks.length cu, .slice Av x.writes.length cv] 36)).alloc (.cells #[.int .i64 0, .int .i64 0, .slice none 0 0, .slice none 0 0] 36)) (w.heap.size + 1) [.int .i64 0, .int .i64 0, .slice none 0 0, .slice none 0 0] from by have h := Held.new (w.alloc (.cells #[.int .i64 x.kind, .int .i64 x.tx, .slice Au x.locks.length cu, .slice Av x.writes.length cv] 36)) #[.int .i64 0, .int .i64 0, .slice none 0 0, .slice none 0 0] 36; rwa [allocSize] at h)
  have HLow := Lib.hid (belowTwo w (.cells #[.int .i64 x.kind, .int .i64 x.tx, .slice Au x.locks.length cu, .slice Av x.writes.length cv] 36) (.cells #[.int .i64 0, .int .i64 0, .slice none 0 0, .slice none 0 0] 36))
  have HU := Lib.hid hu
  have HV := Lib.hid hv
  clear hu hv hr
  go_enter Try.func79, Try.ntmps79
  go_upto_region 1 with fail
  have hWz : ((w.alloc (.cells #[.int .i64 x.kind, .int .i64 x.tx, .slice Au x.locks.length cu, .slice Av x.writes.length cv] 36)).alloc (.cells #[.int .i64 0, .int .i64 0, .slice none 0 0, .slice none 0 0] 36)).heap.size = w.heap.size + 1 + 1 := by simp
  generalize ((w.alloc (.cells #[.int .i64 x.kind, .int .i64 x.tx, .slice Au x.locks.length cu, .slice Av x.writes.length cv] 36)).alloc (.cells #[.int .i64 0, .int .i64 0, .slice none 0 0, .slice none 0 0] 36)) = W at HB1 HB2 HLow hWz ⊢
  go_cut [3] (fun u wc => Boxd W x u wc)
  case first =>
    have HS := Lib.hid fun (y : World) (hy : Below W.heap.size W y) => show y.cell? ⟨w.heap.size, 0, none⟩ = some (.int .i64 x.kind) ∧ y.cell? ⟨w.heap.size, 1, none⟩ = some (.int .i64 x.tx) ∧ y.cell? ⟨w.heap.size, 2, none⟩ = some (.slice Au x.locks.length cu) from
      have h := HB1.out.below hy HB1.out.1
      ⟨h.of 0 _ rfl, h.of 1 _ rfl, h.of 2 _ rfl⟩
    have HRw := Lib.hid fun (y : World) (hy : Below W.heap.size W y) => show strSh.Row y y.heap.size (.slice Au x.locks.length cu) x.locks from
      (HU.out.below (HLow.out.trans (hy.mono (by omega)))).more (by have := hy.size; omega)
    refine wp_region_inv2 (by kernel_rfl) (l2Inv (fun U => #[.agg #[.int .i64 x.kind, .int .i64 x.tx, .slice Au x.locks.length cu, .slice Av x.writes.length cv], .pointer (some ⟨w.heap.size, 0, none⟩), .pointer (some ⟨w.heap.size + 1, 0, none⟩), U 9, undef, undef, U 0, U 1, U 2, U 3, U 4, U 5, U 6, U 7, U 8, undef, undef, undef, undef, undef, undef, undef, undef, undef, undef, undef, undef, undef, undef, undef, undef, undef, undef, undef, undef, undef, undef, undef, undef]) W x (fun j => match j with | 0 => some (.pointer (some ⟨w.heap.size, 0, none⟩)) | 1 => some (.int .i64 x.kind) | 2 => some (.pointer (some ⟨w.heap.size, 1, none⟩)) | 3 => some (.int .i64 x.tx) | 5 => some (.pointer (some ⟨w.heap.size, 2, none⟩)) | 6 => some (.slice Au x.locks.length cu) | _ => none)) (fun i o ho e he => (backB_at (by kernel_rfl) i o ho e he).1) (fun i o ho e he => (backB_at (by kernel_rfl) i o ho e he).2) ?h0 ?hstep ?hend
    case h0 => exact ⟨fun _ => undef, rfl, (Below.refl _ _).drew, fun _ _ _ h => absurd h (by simp), fun _ h => absurd h (by simp), fun _ h => absurd h (by simp), fun h => absurd h (by simp), fun _ h => absurd h (by simp), fun h => absurd h (by simp)⟩
    case hstep =>
      rintro L a Y i o ho hLi hpre hdn ⟨U, rfl, hI⟩ K hK
      have hi : i < 11 := (Array.getElem?_eq_some_iff.1 ho).1
      have hd10 : i < 10 → L 10 = false := fun hj => hdn.notYet 1 10 10 (by kernel_rfl) hj hLi
      have n7 : L 4 = false → L 7 = false := fun h => by cases h1 : L 7 with | false => rfl | true => (have := hdn.reach 1 7 4 (by kernel_rfl) h1; rw [h] at this; cases this)
      have n8 : L 7 = false → L 8 = false := fun h => by cases h1 : L 8 with | false => rfl | true => (have := hdn.reach 1 8 7 (by kernel_rfl) h1; rw [h] at this; cases this)
      clear hdn
      have HK := Lib.hid hK
      have HI := Lib.hid hI
      obtain ⟨cb0, cb1, cb2⟩ := HS.out Y hI.low
      clear hK hI
      rcases (by omega : i = 0 ∨ i = 1 ∨ i = 2 ∨ i = 3 ∨ i = 4 ∨ i = 5 ∨ i = 6 ∨ i = 7 ∨ i = 8 ∨ i = 9 ∨ i = 10) with rfl | rfl | rfl | rfl | rfl | rfl | rfl | rfl | rfl | rfl | rfl
      all_goals (simp at ho; subst ho; simp at hpre)
      · go_simp
        exact HK.out _ _ ⟨upd U 0 (.pointer (some ⟨w.heap.size, 0, none⟩)), by simp [upd], HI.out.pureStep rfl (by decide) (by decide) (by decide) (by decide) (by decide)⟩
      · have e0 : U 0 = .pointer (some ⟨w.heap.size, 0, none⟩) := HI.out.pure 0 _ rfl (by simp [hpre])
        go_simp
        exact HK.out _ _ ⟨upd U 1 (.int .i64 x.kind), by simp [upd, e0], HI.out.pureStep rfl (by decide) (by decide) (by decide) (by decide) (by decide)⟩
      · go_simp
        exact HK.out _ _ ⟨upd U 2 (.pointer (some ⟨w.heap.size, 1, none⟩)), by simp [upd], HI.out.pureStep rfl (by decide) (by decide) (by decide) (by decide) (by decide)⟩
      · have e0 : U 2 = .pointer (some ⟨w.heap.size, 1, none⟩) := HI.out.pure 2 _ rfl (by simp [hpre])
        go_simp
        exact HK.out _ _ ⟨upd U 3 (.int .i64 x.tx), by simp [upd, e0], HI.out.pureStep rfl (by decide) (by decide) (by decide) (by decide) (by decide)⟩
      · go_simp
        exact HK.out _ _ ⟨upd U 4 (.slice (some ⟨Y.heap.size, 0, none⟩) 0 0), by simp [upd], HI.out.litStep rfl (n7 hLi) (hd10 (by decide))⟩
      · go_simp
        exact HK.out _ _ ⟨upd U 5 (.pointer (some ⟨w.heap.size, 2, none⟩)), by simp [upd], HI.out.pureStep rfl (by decide) (by decide) (by decide) (by decide) (by decide)⟩
      · have e0 : U 5 = .pointer (some ⟨w.heap.size, 2, none⟩) := HI.out.pure 5 _ rfl (by simp [hpre])
        go_simp
        exact HK.out _ _ ⟨upd U 6 (.slice Au x.locks.length cu), by simp [upd, e0], HI.out.pureStep rfl (by decide) (by decide) (by decide) (by decide) (by decide)⟩
      · have e6 : U 6 = .slice Au x.locks.length cu := HI.out.pure 6 _ rfl (by simp [hpre])
        have l4 : L 4 = true := by simp [hpre]
        obtain ⟨S, hS1, hS2⟩ := HI.out.nil (hd10 (by decide)) l4 hLi
        have HS1 := Lib.hid hS1
        have HS2 := Lib.hid hS2
        clear hS1 hS2
        rw [if_pos (by rfl)]
        refine app_strs (.tmp 10) (.tmp 12) rfl S (U 4) [] x.locks rfl HS1.out _ Au x.locks.length cu (by show U 6 = _; exact e6) rfl (HRw.out _ HI.out.low) (by simp; omega) ?_
        intro v3 w3 ho3 hg3
        exact HK.out _ _ ⟨upd U 7 v3, by simp [upd, Act.put], HI.out.appStep rfl (n8 hLi) (hd10 (by decide)) HS2.out HS1.out.blk ho3 hg3⟩
      · have l7 : L 7 = true := by simp [hpre]
        have e1 : U 1 = .int .i64 x.kind := HI.out.pure 1 _ rfl (by simp [hpre])
        have e3 : U 3 = .int .i64 x.tx := HI.out.pure 3 _ rfl (by simp [hpre])
        have h10 := hd10 (by decide)
        obtain ⟨A6, c6, e6⟩ : ∃ A c, U 7 = .slice A x.locks.length c := by obtain ⟨S, h3, _⟩ := HI.out.own h10 l7; obtain ⟨A, c, e2, _⟩ := h3.row.form; exact ⟨A, c, e2⟩
        go_simp
        exact HK.out _ _ ⟨upd U 8 (.agg #[.int .i64 x.kind, .int .i64 x.tx, U 7, .slice none 0 0]), by simp [upd, e1, e3, e6], HI.out.aggStep rfl⟩
      · go_simp
        exact HK.out _ _ ⟨upd U 9 (.pointer (some ⟨Y.heap.size, 0, none⟩)), by simp [upd], HI.out.boxStep _ rfl (hd10 (by decide))⟩
      · have l7 : L 7 = true := by simp [hpre]
        have l8 : L 8 = true := by simp [hpre]
        have l9 : L 9 = true := by simp [hpre]
        obtain ⟨q, A6, c6, e9, hq, e7, e8⟩ := HI.out.storeAt l7 l8 l9 hLi
        have x0 := hq.of 0 _ rfl; have x1 := hq.of 1 _ rfl; have x2 := hq.of 2 _ rfl; have x3 := hq.of 3 _ rfl; have y0 := hq.2.1 0; have y1 := hq.2.1 1; have y2 := hq.2.1 2; have y3 := hq.2.1 3
        clear hq
        go_simp
        exact HK.out _ _ ⟨U, by simp [e9, e8, e7], HI.out.storeStep rfl l7 l9 hLi e9 e7⟩
    case hend =>
      rintro L a Y hL ⟨U, rfl, hI⟩
      have HF := Lib.hid (hI.fin (hL 10 (by decide)))
      clear hI
      dsimp only
      go_wp2
      go_meet
      case rel => exact HF.out
  case rest =>
    obtain ⟨p, ul, rfl, hp, hH, hO, hB⟩ := hcut
    have b3 := (HB1.out.below hB HB1.out.1).of 3 _ rfl
    have HB1c := Lib.hid fun (y : World) (hy : Below W.heap.size W y) => HB1.out.below hy HB1.out.1
    have HR := Lib.hid fun (y : World) (hy : Below W.heap.size W y) => HB2.out.below hy HB2.out.1
    have HLw := Lib.hid fun (y : World) (hy : Below W.heap.size W y) => HLow.out.trans (hy.mono (by omega))
    have HI := Lib.hid (show CnW W p x 0 wc from ⟨ul, none, 0, fun b => (W.heap.size ≤ b ∧ b ≠ p) ∧ b < wc.heap.size, fun _ => False, hH, hO.cap, Sh.Own.nil _ _, fun b hb => ⟨hb.1.1, hb.2, hb.1.2⟩, fun _ h => h.elim, fun _ _ h => h, hB⟩)
    have HVy := Lib.hid fun (y : World) (hy : Below W.heap.size W y) => HV.out.below (HLw.out y hy)
    have hWz2 : w.heap.size < W.heap.size := by omega
    clear hH hO hB HB1 HB2 HU HLow HV
    go_wp2
    go_loopw [4] (fun i wr => ∃ k : Nat, k ≤ x.writes.length ∧ i = .int .i64 k ∧ CnW W p x k wr) (fun i _ => x.writes.length - (intOf i).toNat)
    case atStart => exact ⟨0, Nat.zero_le _, rfl, HI.out⟩
    case round =>
      clear HI b3
      obtain ⟨k, hk, rfl, ul, A, c, Su, Sw, hH, hO, hOw, hSu, hSw, hd, hB⟩ := hrel
      have b3 := (HB1c.out _ hB).of 3 _ rfl
      by_cases hlt : k < x.writes.length
      · obtain ⟨b, off, c', y, A', n', d', e1, hx, hb, hs, d0, d1, d2, hi⟩ := wrs_at (HVy.out _ hB) hlt
        obtain ⟨A2, c2, e2, -, -⟩ := hi.form
        injection e2 with e2a e2b e2c
        subst e2b
        injection e1 with e1a e1b e1c
        subst e1a
        have hyl : y.val.length ≤ 1048576 := hl3 y (List.mem_of_getElem? hx)
        have htl : (x.writes.take k).length ≤ 1048576 := by rw [List.length_take]; omega
        have hbW : W.heap.size ≤ wr.heap.size := hB.size
        have hpr : p < wr.heap.size := hH.1
        have HX := Lib.hid ((Held.new wr #[.string y.key, .bool y.del, .slice A' y.val.length d'] 86).after (.cells #[] 3))
        have HH := Lib.hid ((hH.after (.cells #[.string y.key, .bool y.del, .slice A' y.val.length d'] 86)).after (.cells #[] 3))
        have HE := Lib.hid (show OwnInts ((wr.alloc (.cells #[.string y.key, .bool y.del, .slice A' y.val.length d'] 86)).alloc (.cells #[] 3)) (wr.heap.size + 1) (.slice (some ⟨wr.heap.size + 1, 0, none⟩) 0 0) [] from by have h := OwnInts.empty (wr.alloc (.cells #[.string y.key, .bool y.del, .slice A' y.val.length d'] 86)) (wr.heap.size + 1) (by simp); rwa [allocSize] at h)
        have HO := Lib.hid (hO.below (belowTwo wr (.cells #[.string y.key, .bool y.del, .slice A' y.val.length d'] 86) (.cells #[] 3)))
        have HOw := Lib.hid (hOw.below (belowTwo wr (.cells #[.string y.key, .bool y.del, .slice A' y.val.length d'] 86) (.cells #[] 3)))
        have HBw := Lib.hid (hB.trans ((belowTwo wr (.cells #[.string y.key, .bool y.del, .slice A' y.val.length d'] 86) (.cells #[] 3)).mono hbW))
        have HIy := Lib.hid (show Ints ((wr.alloc (.cells #[.string y.key, .bool y.del, .slice A' y.val.length d'] 86)).alloc (.cells #[] 3)) w.heap.size (.slice A' y.val.length d') y.val from (hi.alloc (by omega) _).alloc (by simp; omega) _)
        have HSu := Lib.hid hSu
        have HSw := Lib.hid hSw
        have HD := Lib.hid hd
        have HI := Lib.hid hx
        have x2 := HX.out.of 2 _ rfl
        have xf := HX.out.2.1
        clear e1b e1c e2a e2c hH hO hOw hB hi hSu hSw hd hx
        have hss : ∀ (V : World) (q : Addr) (u : Value), (V.setCell q u).heap.size = V.heap.size := fun V q u => by simp [World.setCell]
        have HSS := Lib.hid hss
        clear hss
        go_wp2_with (first
          | (at_builtin; refine wpl_append_ints rfl _ _ rfl (wr.heap.size + 1) _ [] rfl HE.out w.heap.size _ _ y.val rfl HIy.out (by simp; omega) (by simp) ?_; intro u1 w1 hown hg1; rw [List.nil_append] at hown; obtain ⟨A1, c1, hf1, -, -⟩ := hown.ints.form; subst hf1; have HG1 := Lib.hid hg1; have HR1 := Lib.hid (fun q hq => (HE.out.lt q hq).1); have HX1 := Lib.hid (HX.out.outs (Outs.of_grown (S := fun q => wr.heap.size + 1 ≤ q) hg1 HR1.out) (by omega)); have HH1 := Lib.hid (HH.out.outs (Outs.of_grown (S := fun q => wr.heap.size + 1 ≤ q) hg1 HR1.out) (by omega)); have HU1 := Lib.hid hown.sh; have xf1 := HX1.out.2.1; have z0 := HX1.out.of 0 _ rfl; have z1 := HX1.out.of 1 _ rfl; have z2 := HX1.out.of 2 _ rfl; have p3 := HH1.out.of 3 _ rfl; have hz1 : wr.heap.size < w1.heap.size := HX1.out.1; clear hown hg1 x2 xf;
              have HX2 := Lib.hid ((HX1.out.set_ (i := 2) (.slice A1 y.val.length c1)).after (.cells #[.string y.key, .bool y.del, .slice A1 y.val.length c1] 86)); have HH2 := Lib.hid ((HH1.out.farS (p := ⟨wr.heap.size, 2, none⟩) (by show p ≠ wr.heap.size; omega) (.slice A1 y.val.length c1)).after (.cells #[.string y.key, .bool y.del, .slice A1 y.val.length c1] 86)); have HU2 := Lib.hid ((HU1.out.keep (w' := w1.setCell ⟨wr.heap.size, 2, none⟩ (.slice A1 y.val.length c1)) (fun q hq _ => Below.heap_setCell _ _ _ _ (by have := hq.1; show q ≠ wr.heap.size; omega))).below (belowOne _ (.cells #[.string y.key, .bool y.del, .slice A1 y.val.length c1] 86))); have HN2 := Lib.hid (show Held ((w1.setCell ⟨wr.heap.size, 2, none⟩ (.slice A1 y.val.length c1)).alloc (.cells #[.string y.key, .bool y.del, .slice A1 y.val.length c1] 86)) w1.heap.size [.string y.key, .bool y.del, .slice A1 y.val.length c1] from (by have h := Held.new (w1.setCell ⟨wr.heap.size, 2, none⟩ (.slice A1 y.val.length c1)) #[.string y.key, .bool y.del, .slice A1 y.val.length c1] 86; rwa [HSS.out] at h)); have HO2 := Lib.hid (((HO.out.keep (w' := w1) (fun q hq hlt => HG1.out.block q hlt (fun e => by have := HR1.out q e.symm; have := (HSu.out q hq).2.1; omega))).keep (w' := w1.setCell ⟨wr.heap.size, 2, none⟩ (.slice A1 y.val.length c1)) (fun q hq _ => Below.heap_setCell _ _ _ _ (by have := (HSu.out q hq).2.1; show q ≠ wr.heap.size; omega))).below (belowOne _ (.cells #[.string y.key, .bool y.del, .slice A1 y.val.length c1] 86))); have HW2 := Lib.hid (((HOw.out.keep (w' := w1) (fun q hq hlt => HG1.out.block q hlt (fun e => by have := HR1.out q e.symm; have := (HSw.out q hq).2.1; omega))).keep (w' := w1.setCell ⟨wr.heap.size, 2, none⟩ (.slice A1 y.val.length c1)) (fun q hq _ => Below.heap_setCell _ _ _ _ (by have := (HSw.out q hq).2.1; show q ≠ wr.heap.size; omega))).below (belowOne _ (.cells #[.string y.key, .bool y.del, .slice A1 y.val.length c1] 86))); have HB2 := Lib.hid (((HBw.out.grown HG1.out (by simp; omega) (fun q hq => by have := HR1.out q hq; omega)).setCell (p := ⟨wr.heap.size, 2, none⟩) hbW (.slice A1 y.val.length c1)).alloc (by rw [HSS.out]; omega) (.cells #[.string y.key, .bool y.del, .slice A1 y.val.length c1] 86)); have f3 := HH2.out.2.1 3; have g3 := HH2.out.of 3 _ rfl)
          | (at_builtin; refine wpl_one wrSh 34 86 _ 48 Try.underlying34 infoWrC rfl (by decide) (by omega) rfl (.tmp 33) (.tmp 35) rfl Sw _ _ (x.writes.take k) rfl HW2.out w1.heap.size rfl [.string y.key, .bool y.del, .slice A1 y.val.length c1] y (wr_own.2 ⟨_, rfl, hs, HU2.out⟩) HN2.out (fun b hb hb2 => by have := HSw.out b hb; have := hb2.1; omega) htl ?_; intro v3 w3 ho3 hg3 _; obtain ⟨A3, c3, hf3, -, -⟩ := ho3.row.form; rw [List.length_append, List.length_take, Nat.min_eq_left hk, List.length_singleton] at hf3; subst hf3; have HH3 := Lib.hid (HH2.out.outs (Outs.of_grown (S := Sw) hg3 (HW2.out.blk)) (fun h => (HSw.out _ h).2.2 rfl)); have HO3 := Lib.hid ho3.cap; have HG3 := Lib.hid hg3; have p4 := HH3.out.of 3 _ rfl; have pf := HH3.out.2.1; clear ho3 hg3))
        have HB3 := Lib.hid (HB2.out.grown HG3.out (by rw [allocSize, HSS.out]; omega) (fun q hq => (HSw.out _ (HW2.out.blk q hq)).1))
        have hz3 := HG3.out.size
        rw [allocSize, HSS.out] at hz3
        have HL3 := Lib.hid (HO2.out.keep (w' := w3) fun b hb hlt => HG3.out.block b hlt fun e => HD.out b hb (HW2.out.blk b e.symm))
        have htk := take_snoc HI.out
        rw [← htk] at HO3
        have hp3 : W.heap.size ≤ p := hp
        have HN := Lib.hid (show CnW W p x (k + 1) (w3.setCell ⟨p, 3, none⟩ (.slice A3 (k + 1) c3)) from by
          have hzs : (w3.setCell ⟨p, 3, none⟩ (.slice A3 (k + 1) c3)).heap.size = w3.heap.size := by simp [World.setCell]
          have hset : ∀ b, (Sw b ∨ (wr.heap.size + 1 ≤ b ∧ b < w1.heap.size) ∨ b = ((w1.setCell ⟨wr.heap.size, 2, none⟩ (.slice A1 y.val.length c1)).alloc (.cells #[.string y.key, .bool y.del, .slice A1 y.val.length c1] 86)).heap.size) ∧ b < w3.heap.size → W.heap.size ≤ b ∧ b < w3.heap.size ∧ b ≠ p ∧ ¬ Su b := fun b hb => by
            rcases hb.1 with h | h | h
            · have := HSw.out b h; exact ⟨this.1, hb.2, this.2.2, fun h2 => HD.out b h2 h⟩
            · exact ⟨by omega, hb.2, by omega, fun h2 => by have := (HSu.out b h2).2.1; omega⟩
            · rw [allocSize, HSS.out] at h; exact ⟨by omega, hb.2, by omega, fun h2 => by have := (HSu.out b h2).2.1; omega⟩
          refine ⟨ul, A3, c3, Su, _, HH3.out.set_ (i := 3) (.slice A3 (k + 1) c3), (HL3.out.keep fun b hb _ => Below.heap_setCell _ _ _ _ (HSu.out b hb).2.2), (HO3.out.keep fun b hb _ => Below.heap_setCell _ _ _ _ (hset b hb).2.2.1), fun b hb => ⟨(HSu.out b hb).1, by have := (HSu.out b hb).2.1; rw [hzs]; omega, (HSu.out b hb).2.2⟩, fun b hb => ⟨(hset b hb).1, by rw [hzs]; exact (hset b hb).2.1, (hset b hb).2.2.1⟩, fun b hb hb2 => (hset b hb2).2.2.2 hb, HB3.out.setCell hp3 _⟩)
        clear htk
        go_roundw
        case rel => exact ⟨k + 1, by omega, by go_num, HN.out⟩
        case measure => simp [intOf]; omega
      · obtain rfl : k = x.writes.length := by omega
        have hOw' : wrSh.Own 86 wr Sw (.slice A x.writes.length c) x.writes := by rw [List.take_length] at hOw; exact hOw
        obtain ⟨Al, cl, rfl, -, -⟩ := hO.row.form
        have g0 := hH.of 0 _ rfl
        have g1 := hH.of 1 _ rfl
        have g2 := hH.of 2 _ rfl
        have g3 := hH.of 3 _ rfl
        have hR := HR.out _ hB
        have r0 := hR.of 0 _ rfl
        have r1 := hR.of 1 _ rfl
        have r2 := hR.of 2 _ rfl
        have r3 := hR.of 3 _ rfl
        have rf := hR.2.1
        have HRr := Lib.hid hR
        have HO := Lib.hid hO
        have HOw := Lib.hid hOw'
        have HSu := Lib.hid hSu
        have HSw := Lib.hid hSw
        have HD := Lib.hid hd
        have HB := Lib.hid (HLw.out _ hB)
        have hbW : W.heap.size ≤ wr.heap.size := hB.size
        clear hR hO hOw hOw' hSu hSw hd hB hH
        go_wp2
        have HQ := HRr.out.put4 (.int .i64 x.kind) (.int .i64 x.tx) (.slice Al x.locks.length cl) (.slice A x.writes.length c)
        have q0 := HQ.of 0 _ rfl
        have q1 := HQ.of 1 _ rfl
        have q2 := HQ.of 2 _ rfl
        have q3 := HQ.of 3 _ rfl
        have hfar : ∀ b, b ≠ w.heap.size + 1 → (put4 wr (w.heap.size + 1) (.int .i64 x.kind) (.int .i64 x.tx) (.slice Al x.locks.length cl) (.slice A x.writes.length c)).heap[b]? = wr.heap[b]? := fun b hb => put4_far _ _ _ _ _ _ hb
        refine bodyPost_ret (v := .agg #[.int .i64 x.kind, .int .i64 x.tx, .slice Al x.locks.length cl, .slice A x.writes.length c]) (by simp only [results, Try.results79, go_sem]; simp [go_sem, q0, q1, q2, q3]) rfl ⟨_, rfl, ?_, belowPut4 HB.out (w.heap.size + 1) (by omega) _ _ _ _⟩
        exact note_own.2 ⟨_, _, Su, Sw, rfl, HO.out.keep fun b hb _ => hfar b (by have := HSu.out b hb; omega), HOw.out.keep fun b hb _ => hfar b (by have := HSw.out b hb; omega), fun b hb => by have := HSu.out b hb; rw [put4_size]; omega, fun b hb => by have := HSw.out b hb; rw [put4_size]; omega, fun b h1 h2 => HD.out b h1 h2⟩

end Go.Proofs.Ytkamlibfcakblaa
