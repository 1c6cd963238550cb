/- Texts that follow each other, merged: JaNotes, JaOk, ShalW. -/
import Derived.Test.YtkamlibfcakblaaXJaInts
import Derived.Test.YtkamlibfcakblaaXCloneStr
import Derived.Test.YtkamlibfcakblaaXMark
import Derived.Test.YtkamlibfcakblaaXIntsOne
import Derived.Test.YtkamlibfcakblaaXShal
import Derived.Test.YtkamlibfcakblaaXHStr

/- jaNote, jaNotes and jaDisk of what is the same. -/
namespace Go.Proofs.Ytkamlibfcakblaa
open Go.RowKit

theorem cell_below {w w' : World} {b o : Nat} {u : Value} (hb : Below w.heap.size w w') (h : w.cell? ⟨b, o, none⟩ = some u) : w'.cell? ⟨b, o, none⟩ = some u := by
  have hlt : b < w.heap.size := by
    rcases Nat.lt_or_ge b w.heap.size with h' | h'
    · exact h'
    · simp [World.cell?, Array.getElem?_eq_none h'] at h
  exact (World.cell?_of_block (a := ⟨b, o, none⟩) (hb.block b hlt)).trans h

set_option maxRecDepth 100000 in
set_option maxHeartbeats 4000000 in
theorem jaNote_same (w : World) (cs ds : List Value) (x : Note) (h1 : noteSh.rel w w.heap.size cs x) (h2 : noteSh.rel w w.heap.size ds x) :
    Calls Try.prog 80 #[.agg (List.toArray cs), .agg (List.toArray ds)] w fun e w' => e = .returned (.bool true) ∧ Below w.heap.size w w' := by
  obtain ⟨u1, u2, rfl, hu1, hu2⟩ := note_rel.1 h1
  obtain ⟨v1, v2, rfl, hv1, hv2⟩ := note_rel.1 h2
  have HB := Lib.hid (belowTwo w (.cells #[.int .i64 x.kind, .int .i64 x.tx, u1, u2] 36) (.cells #[.int .i64 x.kind, .int .i64 x.tx, v1, v2] 36))
  have HX := Lib.hid ((Held.new w #[.int .i64 x.kind, .int .i64 x.tx, u1, u2] 36).after (.cells #[.int .i64 x.kind, .int .i64 x.tx, v1, v2] 36))
  have HY := Lib.hid (show Held ((w.alloc (.cells #[.int .i64 x.kind, .int .i64 x.tx, u1, u2] 36)).alloc (.cells #[.int .i64 x.kind, .int .i64 x.tx, v1, v2] 36)) (w.heap.size + 1) [.int .i64 x.kind, .int .i64 x.tx, v1, v2] from by have h := Held.new (w.alloc (.cells #[.int .i64 x.kind, .int .i64 x.tx, u1, u2] 36)) #[.int .i64 x.kind, .int .i64 x.tx, v1, v2] 36; rwa [show (w.alloc (.cells #[.int .i64 x.kind, .int .i64 x.tx, u1, u2] 36)).heap.size = w.heap.size + 1 by simp] at h)
  have H1 := Lib.hid ((hu1.below HB.out).more HB.out.size)
  have H2 := Lib.hid ((hu2.below HB.out).more HB.out.size)
  have K1 := Lib.hid ((hv1.below HB.out).more HB.out.size)
  have K2 := Lib.hid ((hv2.below HB.out).more HB.out.size)
  obtain ⟨A1, c1, rfl, -, -⟩ := hu1.form
  obtain ⟨A2, c2, rfl, -, -⟩ := hu2.form
  obtain ⟨B1, d1, rfl, -, -⟩ := hv1.form
  obtain ⟨B2, d2, rfl, -, -⟩ := hv2.form
  have ek : (x.kind == x.kind) = true := by simp
  have et : (x.tx == x.tx) = true := by simp
  clear hu1 hu2 hv1 hv2 h1 h2
  go_enter Try.func80, Try.ntmps80
  have x0 := HX.out.of 0 _ rfl
  have x1 := HX.out.of 1 _ rfl
  have x2 := HX.out.of 2 _ rfl
  have y0 := HY.out.of 0 _ rfl
  have y1 := HY.out.of 1 _ rfl
  have y2 := HY.out.of 2 _ rfl
  go_wp2_with fail
  clear x0 x1 x2 y0 y1 y2
  refine (jaTexts_same _ _ _ _ x.locks H1.out K1.out).mono ?_
  rintro e w1 ⟨rfl, n, hw1⟩
  have hb : Below ((w.alloc (.cells #[.int .i64 x.kind, .int .i64 x.tx, .slice A1 x.locks.length c1, .slice A2 x.writes.length c2] 36)).alloc (.cells #[.int .i64 x.kind, .int .i64 x.tx, .slice B1 x.locks.length d1, .slice B2 x.writes.length d2] 36)).heap.size ((w.alloc (.cells #[.int .i64 x.kind, .int .i64 x.tx, .slice A1 x.locks.length c1, .slice A2 x.writes.length c2] 36)).alloc (.cells #[.int .i64 x.kind, .int .i64 x.tx, .slice B1 x.locks.length d1, .slice B2 x.writes.length d2] 36)) w1 := by rw [hw1]; exact belowDraws (Below.refl _ _) n
  clear hw1
  replace HX := Lib.hid (HX.out.below hb HX.out.1)
  replace HY := Lib.hid (HY.out.below hb HY.out.1)
  replace HB := Lib.hid (belowNext HB.out hb)
  have H3 := Lib.hid ((H2.out.below hb).more hb.size)
  have K3 := Lib.hid ((K2.out.below hb).more hb.size)
  clear H1 H2 K1 K2 hb
  have x2 := HX.out.of 3 _ rfl
  have y2 := HY.out.of 3 _ rfl
  go_wp2_with fail
  clear x2 y2
  refine (jaWrites_same _ _ _ x.writes H3.out K3.out).mono ?_
  rintro e w2 ⟨rfl, hb⟩
  replace HB := Lib.hid (belowNext HB.out hb)
  clear hb
  go_wp2
  go_ret
  exact ⟨rfl, HB.out⟩

set_option maxRecDepth 100000 in
set_option maxHeartbeats 4000000 in
theorem jaNotes_same (w : World) (v u : Value) (ns : List Note) (hv : noteSh.Row w w.heap.size v ns) (hu : noteSh.Row w w.heap.size u ns) :
    Calls Try.prog 32 #[v, u] w fun e w' => e = .returned (.bool true) ∧ Below w.heap.size w w' := by
  obtain ⟨A, c, rfl, hc2, hc1⟩ := hv.form
  obtain ⟨A', c', rfl, hc2', hc1'⟩ := hu.form
  unfold maxLen at hc2 hc2'
  go_enter Try.func32, Try.ntmps32
  go_wp2
  go_loopw [5] (fun i wr => ∃ k : Nat, k ≤ ns.length ∧ i = .int .i64 k ∧ Below w.heap.size w wr) (fun i _ => ns.length - (intOf i).toNat)
  case atStart => exact ⟨0, Nat.zero_le _, rfl, Below.refl _ _⟩
  case round =>
    obtain ⟨k, hk, rfl, hb⟩ := hrel
    by_cases hlt : k < ns.length
    · obtain ⟨b, off, d, x, cs, e1, hx, hB, hr, hc⟩ := (hv.below hb).at_ hlt
      obtain ⟨b2, off2, d2, x2, cs2, e2, hx2, hB2, hr2, hcc⟩ := (hu.below hb).at_ hlt
      rw [hx] at hx2
      injection hx2 with hx2
      subst hx2
      have HP := Lib.hid (show noteSh.rel wr.drew wr.drew.heap.size cs x from noteSh.rmore hr hb.size)
      have HP2 := Lib.hid (show noteSh.rel wr.drew wr.drew.heap.size cs2 x from noteSh.rmore hr2 hb.size)
      obtain ⟨p1, p2, rfl, hp1, hp2⟩ := note_rel.1 hr
      obtain ⟨q1, q2, rfl, hq1, hq2⟩ := note_rel.1 hr2
      obtain ⟨P1, m1, rfl, -, -⟩ := hp1.form
      obtain ⟨P2, m2, rfl, -, -⟩ := hp2.form
      obtain ⟨Q1, n1, rfl, -, -⟩ := hq1.form
      obtain ⟨Q2, n2, rfl, -, -⟩ := hq2.form
      have c0 : wr.drew.cell? ⟨b, off + k * 4, none⟩ = some (.int .i64 x.kind) := hc 0 _ rfl
      have c1 : wr.drew.cell? ⟨b, off + k * 4 + 1, none⟩ = some (.int .i64 x.tx) := hc 1 _ rfl
      have c2 : wr.drew.cell? ⟨b, off + k * 4 + 2, none⟩ = some (.slice P1 x.locks.length m1) := hc 2 _ rfl
      have c3 : wr.drew.cell? ⟨b, off + k * 4 + 3, none⟩ = some (.slice P2 x.writes.length m2) := hc 3 _ rfl
      have g0 : wr.drew.cell? ⟨b2, off2 + k * 4, none⟩ = some (.int .i64 x.kind) := hcc 0 _ rfl
      have g1 : wr.drew.cell? ⟨b2, off2 + k * 4 + 1, none⟩ = some (.int .i64 x.tx) := hcc 1 _ rfl
      have g2 : wr.drew.cell? ⟨b2, off2 + k * 4 + 2, none⟩ = some (.slice Q1 x.locks.length n1) := hcc 2 _ rfl
      have g3 : wr.drew.cell? ⟨b2, off2 + k * 4 + 3, none⟩ = some (.slice Q2 x.writes.length n2) := hcc 3 _ rfl
      injection e1 with e1a e1b e1c
      injection e2 with e2a e2b e2c
      subst e1a e2a
      have HB := Lib.hid hb
      have k0 := And.intro c0 (And.intro c1 (And.intro c2 (And.intro c3 (And.intro g0 (And.intro g1 (And.intro g2 g3))))))
      have f3 : (0 : Int) ≤ (k : Int) := by omega
      have f4 : (k : Int) < (ns.length : Int) := by omega
      clear e1b e1c e2b e2c hv hu hx hb hc hcc hr hr2 c0 c1 c2 c3 g0 g1 g2 g3 hp1 hp2 hq1 hq2
      go_wp2
      refine wp_region_held_drew (S := (fun w' => w'.cell? ⟨b, off + k * 4, none⟩ = some (.int .i64 x.kind) ∧ w'.cell? ⟨b, off + k * 4 + 1, none⟩ = some (.int .i64 x.tx) ∧ w'.cell? ⟨b, off + k * 4 + 2, none⟩ = some (.slice P1 x.locks.length m1) ∧ w'.cell? ⟨b, off + k * 4 + 3, none⟩ = some (.slice P2 x.writes.length m2) ∧ w'.cell? ⟨b2, off2 + k * 4, none⟩ = some (.int .i64 x.kind) ∧ w'.cell? ⟨b2, off2 + k * 4 + 1, none⟩ = some (.int .i64 x.tx) ∧ w'.cell? ⟨b2, off2 + k * 4 + 2, none⟩ = some (.slice Q1 x.locks.length n1) ∧ w'.cell? ⟨b2, off2 + k * 4 + 3, none⟩ = some (.slice Q2 x.writes.length n2))) (by kernel_rfl) ?hSr (fun hHeldr => ?str)
      case hSr => (first | (dsimp only; (first | with_reducible exact k1 | exact k0)) | (first | with_reducible exact k1 | exact k0))
      refine take_first 0 17 (v := ?vr_1) rfl rfl (by kernel_rfl) (by kernel_rfl) (by kernel_rfl) (fun _ _ _ h => h) (by rfl) ?yr_1 (by assumption) ?rr_1
      case yr_1 => (intro w hSw; (try dsimp only at hSw); go_simp; (try with_reducible rfl))
      simp only [Act.put, List.setIfInBounds_toArray, List.set_cons_zero, List.set_cons_succ]
      refine take_first 1 18 (v := ?vr_2) rfl rfl (by kernel_rfl) (by kernel_rfl) (by kernel_rfl) (fun _ _ _ h => h) (by rfl) ?yr_2 (by assumption) ?rr_2
      case yr_2 => (intro w hSw; (try dsimp only at hSw); go_simp; (try with_reducible rfl))
      simp only [Act.put, List.setIfInBounds_toArray, List.set_cons_zero, List.set_cons_succ]
      refine take_first 2 19 (v := ?vr_3) rfl rfl (by kernel_rfl) (by kernel_rfl) (by kernel_rfl) (fun _ _ _ h => h) (by rfl) ?yr_3 (by assumption) ?rr_3
      case yr_3 => (intro w hSw; (try dsimp only at hSw); go_simp; (try with_reducible rfl))
      simp only [Act.put, List.setIfInBounds_toArray, List.set_cons_zero, List.set_cons_succ]
      refine take_first 3 20 (v := ?vr_4) rfl rfl (by kernel_rfl) (by kernel_rfl) (by kernel_rfl) (fun _ _ _ h => h) (by rfl) ?yr_4 (by assumption) ?rr_4
      case yr_4 => (intro w hSw; (try dsimp only at hSw); go_simp; (try with_reducible rfl))
      simp only [Act.put, List.setIfInBounds_toArray, List.set_cons_zero, List.set_cons_succ]
      refine take_first 4 21 (v := ?vr_5) rfl rfl (by kernel_rfl) (by kernel_rfl) (by kernel_rfl) (fun _ _ _ h => h) (by rfl) ?yr_5 (by assumption) ?rr_5
      case yr_5 => (intro w hSw; (try dsimp only at hSw); go_simp; (try with_reducible rfl))
      simp only [Act.put, List.setIfInBounds_toArray, List.set_cons_zero, List.set_cons_succ]
      refine take_first 5 22 (v := ?vr_6) rfl rfl (by kernel_rfl) (by kernel_rfl) (by kernel_rfl) (fun _ _ _ h => h) (by rfl) ?yr_6 (by assumption) ?rr_6
      case yr_6 => (intro w hSw; (try dsimp only at hSw); go_simp; (try with_reducible rfl))
      simp only [Act.put, List.setIfInBounds_toArray, List.set_cons_zero, List.set_cons_succ]
      refine take_first 6 23 (v := ?vr_7) rfl rfl (by kernel_rfl) (by kernel_rfl) (by kernel_rfl) (fun _ _ _ h => h) (by rfl) ?yr_7 (by assumption) ?rr_7
      case yr_7 => (intro w hSw; (try dsimp only at hSw); go_simp; (try with_reducible rfl))
      simp only [Act.put, List.setIfInBounds_toArray, List.set_cons_zero, List.set_cons_succ]
      refine take_first 7 24 (v := ?vr_8) rfl rfl (by kernel_rfl) (by kernel_rfl) (by kernel_rfl) (fun _ _ _ h => h) (by rfl) ?yr_8 (by assumption) ?rr_8
      case yr_8 => (intro w hSw; (try dsimp only at hSw); go_simp; (try with_reducible rfl))
      simp only [Act.put, List.setIfInBounds_toArray, List.set_cons_zero, List.set_cons_succ]
      refine wpAnyH_ready (rs := [8]) (by kernel_rfl) (by simp) ?_
      refine AllReadyH.cons (o := _) rfl (fun Kr_9 hKr_9 => ?cr_9) ?mr_9
      case mr_9 => exact AllReadyH.nil
      go_simp
      refine (jaNote_same _ _ _ x HP.out HP2.out).mono ?_; rintro e w1 ⟨rfl, hb1⟩; have k1 := And.intro (cell_below hb1 k0.1) (And.intro (cell_below hb1 k0.2.1) (And.intro (cell_below hb1 k0.2.2.1) (And.intro (cell_below hb1 k0.2.2.2.1) (And.intro (cell_below hb1 k0.2.2.2.2.1) (And.intro (cell_below hb1 k0.2.2.2.2.2.1) (And.intro (cell_below hb1 k0.2.2.2.2.2.2.1) (cell_below hb1 k0.2.2.2.2.2.2.2))))))); have HB1 := Lib.hid (HB.out.drew.trans (hb1.mono HB.out.size)); clear hb1
      go_wp2_with fail
      refine hKr_9.out _ _ ?kr_9 (fun hHeldr_9 => ?dr_9)
      case kr_9 => (first | (dsimp only; (first | with_reducible exact k1 | exact k0)) | (first | with_reducible exact k1 | exact k0))
      clear hKr_9 Kr_9
      refine take_first 9 26 (v := ?vr_10) rfl rfl (by kernel_rfl) (by kernel_rfl) (by kernel_rfl) (fun _ _ _ h => h) (by rfl) ?yr_10 (by assumption) ?rr_10
      case yr_10 => (intro w hSw; (try dsimp only at hSw); go_simp; (try with_reducible rfl))
      simp only [Act.put, List.setIfInBounds_toArray, List.set_cons_zero, List.set_cons_succ]
      refine wpAnyH_done (by kernel_rfl) ?er _
      clear k0 k1
      go_wp2
      go_roundw
      case rel => exact ⟨k + 1, by omega, by go_num, HB1.out⟩
      case measure => simp [intOf]; omega
    · clear hv hu
      go_wp2
      go_ret
      exact ⟨rfl, hb⟩

set_option maxRecDepth 100000 in
set_option maxHeartbeats 4000000 in
theorem jaDisk_same (w : World) (cs ds : List Value) (x : Disk) (h1 : diskSh.rel w w.heap.size cs x) (h2 : diskSh.rel w w.heap.size ds x) :
    Calls Try.prog 30 #[.agg (List.toArray cs), .agg (List.toArray ds)] w fun e w' => e = .returned (.bool true) ∧ Below w.heap.size w w' := by
  obtain ⟨u, rfl, hu⟩ := disk_rel.1 h1
  obtain ⟨v, rfl, hv⟩ := disk_rel.1 h2
  have HB := Lib.hid (belowTwo w (.cells #[u, .int .i64 x.safe] 25) (.cells #[v, .int .i64 x.safe] 25))
  have HX := Lib.hid ((Held.new w #[u, .int .i64 x.safe] 25).after (.cells #[v, .int .i64 x.safe] 25))
  have HY := Lib.hid (show Held ((w.alloc (.cells #[u, .int .i64 x.safe] 25)).alloc (.cells #[v, .int .i64 x.safe] 25)) (w.heap.size + 1) [v, .int .i64 x.safe] from by have h := Held.new (w.alloc (.cells #[u, .int .i64 x.safe] 25)) #[v, .int .i64 x.safe] 25; rwa [show (w.alloc (.cells #[u, .int .i64 x.safe] 25)).heap.size = w.heap.size + 1 by simp] at h)
  have H1 := Lib.hid ((hu.below HB.out).more HB.out.size)
  have K1 := Lib.hid ((hv.below HB.out).more HB.out.size)
  obtain ⟨A1, c1, rfl, -, -⟩ := hu.form
  obtain ⟨B1, d1, rfl, -, -⟩ := hv.form
  have es : (x.safe == x.safe) = true := by simp
  clear hu hv h1 h2
  go_enter Try.func30, Try.ntmps30
  have x0 := HX.out.of 0 _ rfl
  have x1 := HX.out.of 1 _ rfl
  have y0 := HY.out.of 0 _ rfl
  have y1 := HY.out.of 1 _ rfl
  go_wp2_with fail
  clear x0 x1 y0 y1
  refine (jaNotes_same _ _ _ x.notes H1.out K1.out).mono ?_
  rintro e w1 ⟨rfl, hb⟩
  replace HB := Lib.hid (belowNext HB.out hb)
  clear hb
  go_wp2
  go_ret
  exact ⟨rfl, HB.out⟩

end Go.Proofs.Ytkamlibfcakblaa

/- What every law of draws ends with. -/
namespace Go.Proofs.Ytkamlibfcakblaa
open Go.RowKit

set_option maxRecDepth 100000 in
theorem jaOk_any (w : World) : Calls Try.prog 16 #[] w fun e w' => e = .returned (.bool true) ∧ Below w.heap.size w w' := by
  have HI := Lib.hid (Ints.one w 1)
  have HK : Hid (wrtB ⟨#[97, 49]⟩ false [1] = true) := by show wrtB ⟨#[97, 49]⟩ false [1] = true; decide
  go_enter Try.func16, Try.ntmps16
  go_wp2_with fail
  refine (implWrtOk_any _ _ _ _ [1] (by show 2 ≤ _; unfold maxLen; omega) HI.out).mono ?_
  rintro e w1 ⟨rfl, hb1⟩
  rw [HK.out]
  have HB := Lib.hid (belowNext (belowOne _ _) hb1)
  clear hb1
  go_wp2
  go_ret
  exact ⟨rfl, HB.out⟩

end Go.Proofs.Ytkamlibfcakblaa

/- Appends to a row of one's own whose elements are only read, in a walk: of any shape. -/
namespace Go.Proofs.Ytkamlibfcakblaa
open Go.RowKit

section
variable {α : Type} (Q0 : Sh α) (t e : TypeId) (z : Value) (bytes : Nat) (ht : Try.prog.underlying t = some (.slice e)) (hinfo : (Try.prog.info? e).map (fun i => (i.zero, i.size, i.bytes)) = some (some z, Q0.wd, bytes)) (hzs : z.cells.size = Q0.wd) (hsz : 0 < Q0.wd) (hbl : bytes ≤ 65536)
include ht hinfo hzs hsz hbl
/-- append of some things that are read. -/
theorem shalS_any {o : Oper} {a : Act} {w : World} {K : Act → World → Prop} {Q : Exit → Act → World → Prop} (s x : Operand)
    (ho : o.op = .call { callee := .builtin .append, args := #[s, x], argTypes := #[t, t] }) (B : Nat) (v : Value) (xs ys : List α) (hs : a.eval s = v) (hv : Q0.Shal e w B v xs) (hB : B ≤ w.heap.size)
    (Ad : Option Addr) (n c : Nat) (hx : a.eval x = .slice Ad n c) (hn : n = ys.length) (hy : Q0.Row w B (.slice Ad n c) ys) (hl : xs.length + ys.length ≤ 2097152)
    (h : ∀ v' w', Q0.Shal e w' B v' (xs ++ ys) → Below B w w' → w.grownBy w' v.ownBlock → K (a.put o.dst v') w') :
    Oper.wp Try.prog o a w K Q := by
  obtain ⟨i, hi, hz, hsi, hb⟩ := info_parts hinfo
  obtain ⟨v', w', hr, h2, h3, h4, h5⟩ := Sh.shal_run (P := Try.prog) (A := Q0) i _ bytes ht hi hz hsi hb hzs hsz hv hB Ad n c hn hy o.type hl hbl
  unfold Oper.wp execOp
  simp only [ho, resolve, invoke, builtin, Sem.run_bind, Sem.run_pure, Result.andThen_ok, List.map_toArray, List.map_cons, List.map_nil, hs, hx, hr]
  exact h v' w' h2 h3 h5
/-- append of one thing that is laid out beside. -/
theorem shal1_any {o : Oper} {a : Act} {w : World} {K : Act → World → Prop} {Q : Exit → Act → World → Prop} (s x : Operand)
    (ho : o.op = .call { callee := .builtin .append, args := #[s, x], argTypes := #[t, t] }) (B : Nat) (v : Value) (xs : List α) (hs : a.eval s = v) (hv : Q0.Shal e w B v xs) (hB : B ≤ w.heap.size)
    (L c : Nat) (hx : a.eval x = .slice (some ⟨L, 0, none⟩) 1 c) (y : α) (cs : List Value) (hrel : Q0.rel w B cs y) (hsrc : ∀ j u, cs[j]? = some u → w.cell? ⟨L, j, none⟩ = some u) (hl : xs.length + 1 ≤ 2097152)
    (h : ∀ v' w', Q0.Shal e w' B v' (xs ++ [y]) → Below B w w' → K (a.put o.dst v') w') :
    Oper.wp Try.prog o a w K Q := by
  obtain ⟨i, hi, hz, hsi, hb⟩ := info_parts hinfo
  obtain ⟨C, h1, h2, h3⟩ := hv
  have hcl : cs.length = Q0.wd := Q0.rlen hrel
  have hb2 : (xs.length + 1) * bytes ≤ 140737488355328 := by
    have h := Nat.mul_le_mul hl hbl
    omega
  obtain ⟨v', w', hr, q2, hg, _, q5⟩ := run_append_own_at (P := Try.prog) w 0 t o.type e i _ Q0.wd bytes ht hi hz hsi hb hzs hsz v xs.length _ h1 ⟨L, 0, none⟩ 1 c cs (by rw [hcl, Nat.one_mul]) (fun j u hu => by rw [add_none, Nat.zero_add]; exact hsrc j u hu) (Q0.rone hrel) (by unfold maxLen; omega) hb2 (Nat.zero_le _)
  have hbel : Below B w w' := (Below.refl B w).grown hg hB h2
  unfold Oper.wp execOp
  simp only [ho, resolve, invoke, builtin, Sem.run_bind, Sem.run_pure, Result.andThen_ok, List.map_toArray, List.map_cons, List.map_nil, hs, hx, hr]
  refine h v' w' ⟨fun j => if j < xs.length then C j else cs, ?_, fun g hg' => ?_, fun j z hz' => ?_⟩ hbel
  · have hf : flat (fun j => if j < xs.length then C j else cs) (xs.length + 1) = flat C xs.length ++ cs := by
      have h := flat_app C (fun _ => cs) xs.length 1
      rw [h]; simp [flat]
    rw [List.length_append, List.length_singleton, hf]
    exact q2
  · rcases q5 with h | h
    · exact h2 g (h ▸ hg')
    · rw [h] at hg'; rw [← Option.some.inj hg']; exact hB
  · by_cases hj : j < xs.length
    · rw [List.getElem?_append_left hj] at hz'
      simp only [hj, if_true]
      exact Q0.rbelow (h3 j z hz') hbel
    · rw [List.getElem?_append_right (by omega)] at hz'
      have hj0 : j - xs.length = 0 := by have := (List.getElem?_eq_some_iff.1 hz').1; simp at this; omega
      rw [hj0] at hz'
      obtain rfl : y = z := by simpa using hz'
      simp only [hj, if_false]
      exact Q0.rbelow hrel hbel
end

end Go.Proofs.Ytkamlibfcakblaa
