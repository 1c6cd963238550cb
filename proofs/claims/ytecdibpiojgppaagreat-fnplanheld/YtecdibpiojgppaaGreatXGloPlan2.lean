/- (*attempt).plan: what every place would write, or nothing. -/
import Derived.Test.YtecdibpiojgppaaGreatXStoDoI
import Derived.Test.YtecdibpiojgppaaGreatXOutMay2
import Derived.Test.YtecdibpiojgppaaGreatXShal
import Derived.Deep.CutRange
import Derived.Deep.DeepCutAuto
namespace Go.Proofs.YtecdibpiojgppaaGreat
open Go.RowKit

/-- Only the way that goes on. -/
abbrev calm (Q : Exit → Act → World → Prop) : Exit → Act → World → Prop := fun e a w => match e with
  | .normal => Q .normal a w
  | _ => False
theorem wp_calm {P : Program} {c : Code} {Q : Exit → Act → World → Prop} {a : Act} {w : World} (h : Code.wp P c (calm Q) a w) : Code.wp P c Q a w :=
  Code.wp_mono (fun e a w h => by cases e <;> first | exact h | exact h.elim) h
/-- What a place keeps. -/
def atP (xs : List Sto) (q : Int) : List Item := (xs[(q - 1).toNat]?).elim [] (·.items)
def okP (xs : List Sto) (tx : Int) (o : Op) (q : Int) : Bool := (plcP (atP xs q) q tx o).ok
def pendP (xs : List Sto) (tx : Int) (o : Op) (q : Int) : Pend := ⟨q, (plcP (atP xs q) q tx o).writes⟩
/-- What holds while the plans are made. -/
structure PlI (w : World) (p : Nat) (us : Value) (xs : List Sto) (o : Op) (S1 : Nat → Prop) (vp : Value) (uw : Value) (S2 : Nat → Prop) (ps : List Pend) (W : World) : Prop where
  bx : Held W w.heap.size [.pointer (some ⟨p, 0, none⟩)]
  op : Held W (w.heap.size + 1) [.int .i64 o.kind, .int .i64 o.who, .int .i64 o.inn, .int .i64 o.code, .int .i64 o.sec, .int .i64 o.fam, .int .i64 o.gen]
  rs : Held W (w.heap.size + 1 + 1) [.bool false]
  hp : Held W p [us, uw]
  sto : stoSh.Own 35 W (fun b => S1 b ∧ b < w.heap.size) us xs
  pl : OwnInts W (w.heap.size + 1 + 1 + 1) vp (placesP o)
  pd : pendSh.Own 113 W S2 uw ps
  s2 : ∀ b, S2 b → w.heap.size + 2 < b ∧ b < W.heap.size
  ap : ∀ b, S2 b → vp.ownBlock ≠ some b
  out : Outs (fun b => b = p) w W
section
variable {w W W' : World} {p : Nat} {us vp uw : Value} {xs : List Sto} {o : Op} {S1 S2 : Nat → Prop} {ps : List Pend}
theorem PlI.next (h : PlI w p us xs o S1 vp uw S2 ps W) (hb : Below W.heap.size W W') : PlI w p us xs o S1 vp uw S2 ps W' :=
  ⟨h.bx.below hb h.bx.1, h.op.below hb h.op.1, h.rs.below hb h.rs.1, h.hp.below hb h.hp.1, h.sto.below hb, h.pl.below hb, h.pd.below hb, fun b hs => ⟨(h.s2 b hs).1, Nat.lt_of_lt_of_le (h.s2 b hs).2 hb.size⟩, h.ap, h.out.trans (Outs.of_below hb)⟩
theorem PlI.own2 (h : PlI w p us xs o S1 vp uw S2 ps W) : ∀ b, uw.ownBlock = some b → S2 b := by
  intro b e
  rcases h.pd.form with ⟨rfl, _⟩ | ⟨g, cap, rfl, hs, _⟩
  · cases e
  · have e' : g = b := Option.some.inj e
    exact e' ▸ hs
theorem PlI.grow (h : PlI w p us xs o S1 vp uw S2 ps W) (hpw : p < w.heap.size) (hp1 : ¬ S1 p) {v' : Value} {S3 : Nat → Prop} {ps' : List Pend} (hv : pendSh.Own 113 W' S3 v' ps') (hg : W.grownBy W' uw.ownBlock) (h3 : ∀ b, S3 b → w.heap.size + 2 < b ∧ b < W'.heap.size) (h4 : ∀ b, S3 b → vp.ownBlock ≠ some b) : PlI w p us xs o S1 vp v' S3 ps' (W'.setCell ⟨p, 1, none⟩ v') := by
  have ho : ∀ b, uw.ownBlock = some b → S2 b := by
    intro b e
    rcases h.pd.form with ⟨rfl, _⟩ | ⟨g, cap, rfl, hs, _⟩
    · cases e
    · have e' : g = b := Option.some.inj e
      exact e' ▸ hs
  have hn : ∀ b, b ≤ w.heap.size + 2 → uw.ownBlock ≠ some b := fun b hb e => by have := (h.s2 b (ho b e)).1; omega
  refine ⟨(h.bx.grown hg (hn _ (by omega))).farS (p := ⟨p, 1, none⟩) (by show w.heap.size ≠ p; omega) v', (h.op.grown hg (hn _ (by omega))).farS (p := ⟨p, 1, none⟩) (by show w.heap.size + 1 ≠ p; omega) v', (h.rs.grown hg (hn _ (by omega))).farS (p := ⟨p, 1, none⟩) (by show w.heap.size + 1 + 1 ≠ p; omega) v', (h.hp.grown hg (hn _ (by omega))).set_ (i := 1) v', ?_, ?_, ?_, ?_, h4, ?_⟩
  · refine (h.sto.keep (w' := W') fun b hb hlt => hg.block b hlt (fun e => hn b (by have := hb.2; omega) e.symm)).keep fun b hb _ => Below.heap_setCell _ _ _ _ (fun e => hp1 ((show b = p from e) ▸ hb.1))
  · refine OwnInts.set_ (World.ownsRow.kept h.pl hg ?_) (fun b hb => ?_) v'
    · cases hvp : vp.ownBlock with
      | none => exact .inl rfl
      | some b => exact .inr fun e => h.ap b (ho b e.symm) hvp
    · have := (World.ownsRow.lt h.pl b hb).1
      show b ≠ p; omega
  · exact hv.keep fun b hb _ => Below.heap_setCell _ _ _ _ (fun e => by have := (h3 b hb).1; have e' : b = p := e; omega)
  · intro b hb
    have := h3 b hb
    simpa [World.setCell] using this
  · have h5 : Outs (fun b => b = p ∨ w.heap.size ≤ b) w W := h.out.mono fun _ _ h => .inl h
    have h6 : Outs (fun b => b = p ∨ w.heap.size ≤ b) W W' := Outs.of_grown hg fun b e => .inr (by have := (h.s2 b (ho b e)).1; omega)
    exact ((h5.trans h6).trans (Outs.of_set W' ⟨p, 1, none⟩ v' (.inl rfl))).mono fun b hb h => h.resolve_right (by omega)
theorem PlI.fin (h : PlI w p us xs o S1 vp uw S2 ps W) (hpw : p < w.heap.size) (v : Value) : Held (W.setCell ⟨w.heap.size + 1 + 1, 0, none⟩ v) p [us, uw] ∧ stoSh.Own 35 (W.setCell ⟨w.heap.size + 1 + 1, 0, none⟩ v) S1 us xs ∧
    ∃ x, pendSh.Own 113 (W.setCell ⟨w.heap.size + 1 + 1, 0, none⟩ v) x uw ps ∧ (∀ b, x b → w.heap.size ≤ b) ∧ Outs (fun b => b = p) w (W.setCell ⟨w.heap.size + 1 + 1, 0, none⟩ v) := by
  refine ⟨h.hp.farS (p := ⟨w.heap.size + 1 + 1, 0, none⟩) (by show p ≠ w.heap.size + 1 + 1; omega) v, (h.sto.keep fun b hb _ => Below.heap_setCell _ _ _ _ (fun e => ?_)).mono fun b hb => hb.1, S2, h.pd.keep fun b hb _ => Below.heap_setCell _ _ _ _ (fun e => ?_), fun b hb => by have := (h.s2 b hb).1; omega, ?_⟩
  · have e' : b = w.heap.size + 1 + 1 := e
    have := hb.2; omega
  · have e' : b = w.heap.size + 1 + 1 := e
    have := (h.s2 b hb).1; omega
  · have h2 : Outs (fun b => b = p ∨ w.heap.size ≤ b) w W := h.out.mono fun _ _ h => .inl h
    exact (h2.trans (Outs.of_set W ⟨w.heap.size + 1 + 1, 0, none⟩ v (.inr (by show w.heap.size ≤ w.heap.size + 1 + 1; omega)))).mono fun b hb h => h.resolve_right (by omega)
theorem PlI.back (h : PlI w p us xs o S1 vp uw S2 ps W) (hpw : p < w.heap.size) (hp1 : ¬ S1 p) (v : Value) : Held ((W.setCell ⟨w.heap.size + 1 + 1, 0, none⟩ v).setCell ⟨p, 1, none⟩ (.slice none 0 0)) p [us, .slice none 0 0] ∧ stoSh.Own 35 ((W.setCell ⟨w.heap.size + 1 + 1, 0, none⟩ v).setCell ⟨p, 1, none⟩ (.slice none 0 0)) S1 us xs ∧
    ∃ x, pendSh.Own 113 ((W.setCell ⟨w.heap.size + 1 + 1, 0, none⟩ v).setCell ⟨p, 1, none⟩ (.slice none 0 0)) x (.slice none 0 0) [] ∧ (∀ b, x b → w.heap.size ≤ b) ∧ Outs (fun b => b = p) w ((W.setCell ⟨w.heap.size + 1 + 1, 0, none⟩ v).setCell ⟨p, 1, none⟩ (.slice none 0 0)) := by
  obtain ⟨h1, h2, x, -, -, h5⟩ := h.fin hpw v
  exact ⟨h1.set_ (i := 1) (.slice none 0 0), h2.keep fun b hb _ => Below.heap_setCell _ _ _ _ (fun e => hp1 ((show b = p from e) ▸ hb)), fun _ => False, Sh.Own.nil _ _, fun _ h => h.elim, h5.trans (Outs.of_set _ ⟨p, 1, none⟩ _ rfl)⟩
end

theorem places_len (o : Op) : (placesP o).length ≤ 3 := by
  unfold placesP
  split
  · unfold upto
    refine Nat.le_trans (List.length_filter_le _ _) ?_
    simp
  · simp
theorem infoP2 : (Tryz.prog.info? 113).map (fun i => (i.zero, i.size, i.bytes)) = some (some (.agg #[.int .i64 0, .slice none 0 0]), 2, 32) := by kernel_rfl
theorem app_pend {o : Oper} {a : Act} {w : World} {K : Act → World → Prop} {Q : Exit → Act → World → Prop} (s x : Operand)
    (ho : o.op = .call { callee := .builtin .append, args := #[s, x], argTypes := #[70, 70] }) (S S' : Nat → Prop) (v : Value) (xs : List Pend) (hs : a.eval s = v) (hv : pendSh.Own 113 w S v xs)
    (B : Nat) (hx : a.eval x = .slice (some ⟨B, 0, none⟩) 1 1) (cs : List Value) (y : Pend) (hy : pendSh.own w S' cs y) (hsrc : Held w B cs) (hdis : ∀ b, S b → ¬ S' b) (hl : xs.length ≤ 1048576)
    (h : ∀ v' w', pendSh.Own 113 w' (fun b => S b ∨ S' b ∨ b = w.heap.size) v' (xs ++ [y]) → w.grownBy w' v.ownBlock → (v'.ownBlock = v.ownBlock ∨ v'.ownBlock = some w.heap.size) → K (a.put o.dst v') w') :
    Oper.wp Tryz.prog o a w K Q := by
  obtain ⟨i, hi, hz, hsz, hb⟩ := info_parts infoP2
  obtain ⟨v', w', hr, h2, h3, h4⟩ := Sh.append_one (P := Tryz.prog) (A := pendSh) i _ 32 Tryz.underlying70 hi hz hsz hb rfl (by decide) hv B cs y hy hsrc hdis o.type hl (by omega)
  unfold Oper.wp execOp
  simp only [ho, resolve, invoke, builtin, Sem.run_bind, Sem.run_pure, Result.andThen_ok, List.map_toArray, List.map_cons, List.map_nil, hs, hx, hr]
  exact h v' w' h2 h3 h4

set_option maxRecDepth 100000 in
set_option maxHeartbeats 4000000 in
theorem plan_any (w : World) (p : Nat) (us : Value) (xs : List Sto) (tx : Int) (o : Op) (S1 : Nat → Prop) (hp : Held w p [us, .slice none 0 0]) (hus : stoSh.Own 35 w S1 us xs) (hp1 : ¬ S1 p) (hl : xs.length = 3) (hpl : ∀ q ∈ placesP o, 1 ≤ q ∧ q ≤ 3) :
    Calls Tryz.prog 38 #[.pointer (some ⟨p, 0, none⟩), .int .i64 tx, opV o] w fun e w' => e = .returned (.bool ((placesP o).all (okP xs tx o))) ∧ ∃ uw S2, Held w' p [us, uw] ∧ stoSh.Own 35 w' S1 us xs ∧ pendSh.Own 113 w' S2 uw (if (placesP o).all (okP xs tx o) then (placesP o).map (pendP xs tx o) else []) ∧ (∀ b, S2 b → w.heap.size ≤ b) ∧ Outs (fun b => b = p) w w' := by
  obtain ⟨B, hB⟩ : ∃ B, (placesP o).all (okP xs tx o) = B := ⟨_, rfl⟩
  have HBb := Lib.hid hB
  rw [hB]
  clear hB
  have hmf : ∀ (fn : Fn) (first cap : Array Value) (w : World), (Instr.makeFunc fn first cap).run Tryz.prog w = .ok (.func fn first cap) w := fun _ _ _ _ => rfl
  have H3 := Lib.hid (Held.new2 w (.cells #[.pointer (some ⟨p, 0, none⟩)] 68) (.cells #[.int .i64 o.kind, .int .i64 o.who, .int .i64 o.inn, .int .i64 o.code, .int .i64 o.sec, .int .i64 o.fam, .int .i64 o.gen] 25) #[.bool false] 4)
  have H2 := Lib.hid ((Held.new1 w (.cells #[.pointer (some ⟨p, 0, none⟩)] 68) #[.int .i64 o.kind, .int .i64 o.who, .int .i64 o.inn, .int .i64 o.code, .int .i64 o.sec, .int .i64 o.fam, .int .i64 o.gen] 25).after (.cells #[.bool false] 4))
  have H1 := Lib.hid (((Held.new w #[.pointer (some ⟨p, 0, none⟩)] 68).after (.cells #[.int .i64 o.kind, .int .i64 o.who, .int .i64 o.inn, .int .i64 o.code, .int .i64 o.sec, .int .i64 o.fam, .int .i64 o.gen] 25)).after (.cells #[.bool false] 4))
  have HB := Lib.hid (belowThree w (.cells #[.pointer (some ⟨p, 0, none⟩)] 68) (.cells #[.int .i64 o.kind, .int .i64 o.who, .int .i64 o.inn, .int .i64 o.code, .int .i64 o.sec, .int .i64 o.fam, .int .i64 o.gen] 25) (.cells #[.bool false] 4))
  have HP := Lib.hid hp
  have HPw := Lib.hid hp.1
  have HU := Lib.hid hus
  have HPl := Lib.hid hpl
  have HXl := Lib.hid hl
  obtain ⟨q0, q1, q2, q3, q4, q5, q6⟩ := H2.out.seven
  clear hp hus hpl hl
  go_enter_defers Tryz.func38, Tryz.ntmps38
  unfold opV
  go_wp2_with fail
  clear q0 q1 q2 q3 q4 q5 q6
  refine (implOpPlaces_any _ o).mono ?_
  rintro e w1 ⟨vp, rfl, hov, hb⟩
  have HI := Lib.hid (show PlI w p us xs o S1 vp (.slice none 0 0) (fun _ => False) (([] : List Int).map (pendP xs tx o)) w1 from ⟨H1.out.below hb H1.out.1, H2.out.below hb H2.out.1, H3.out.below hb H3.out.1, (HP.out.below HB.out HP.out.1).below hb (HP.out.below HB.out HP.out.1).1, (HU.out.cap.below HB.out).below hb, by have h := hov; simpa using h, Sh.Own.nil _ _, fun _ h => h.elim, fun _ h => h.elim, (Outs.of_below HB.out).trans (Outs.of_below hb)⟩)
  have hvp := hov.ints.form
  obtain ⟨Av, cv, rfl, hcv, hcv1⟩ := hvp
  unfold maxLen at hcv
  clear hov hb H1 H2 H3 HP HU HB
  go_wp2
  go_loopw [14] (fun i wr => ∃ (k : Nat) (uw : Value) (S2 : Nat → Prop), k ≤ (placesP o).length ∧ i = .int .i64 k ∧ (∀ j q, j < k → (placesP o)[j]? = some q → okP xs tx o q = true) ∧ PlI w p us xs o S1 (.slice Av (placesP o).length cv) uw S2 (((placesP o).take k).map (pendP xs tx o)) wr) (fun i _ => (placesP o).length - (intOf i).toNat)
  case atStart => exact ⟨0, _, _, Nat.zero_le _, rfl, fun j _ h => absurd h (by omega), HI.out⟩
  case round =>
    clear HI
    obtain ⟨k, uw, S2, hk, rfl, he, hP⟩ := hrel
    have HE := Lib.hid he
    have HPI := Lib.hid hP
    by_cases hlt : k < (placesP o).length
    · rcases hP.pl.form with ⟨e0, e0'⟩ | ⟨gv, capv, e0, hgv, hgv2, -, -⟩
      · rw [e0'] at hlt; simp at hlt
      injection e0 with e0a e0b e0c
      subst e0a
      obtain ⟨q, hq⟩ : ∃ q, (placesP o)[k]? = some q := ⟨_, List.getElem?_eq_getElem hlt⟩
      have cq : wr.cell? ⟨gv, k, none⟩ = some (.int .i64 q) := by
        have h := World.ownsRow.cellAt hP.pl k (by omega)
        rw [h, List.getElem?_map, hq]; rfl
      obtain ⟨hq1, hq3⟩ := HPl.out q (List.mem_of_getElem? hq)
      obtain ⟨i, hi⟩ : ∃ i : Nat, q = (i : Int) + 1 := ⟨(q - 1).toNat, by omega⟩
      have hix : i < xs.length := by rw [HXl.out]; omega
      obtain ⟨g, cap, y, cy, Sj, e2, hy, hSg, hgw, hoy, hSj, hcy, hfr, -, -⟩ := hP.sto.at_ (j := i) hix
      obtain ⟨uy, rfl, huy⟩ := sto_own.1 hoy
      obtain ⟨Ay, cyc, rfl, -, -⟩ := huy.row.form
      subst e2
      have g0 : wr.cell? ⟨g, i, none⟩ = some (.slice Ay y.items.length cyc) := by
        have h := hcy 0 _ rfl
        rwa [show i * stoSh.wd + 0 = i from Nat.mul_one _] at h
      have HAt : Hid (atP xs q = y.items) := Lib.hid (by unfold atP; rw [show (q - 1).toNat = i by omega, hy]; rfl)
      have KI := Lib.hid fun V (h : Below wr.heap.size wr V) => ((items_row.1 huy.row).below h).more h.size
      have KC := Lib.hid fun V (h : Below wr.heap.size wr V) => And.intro ((hP.bx.below h hP.bx.1).of 0 _ rfl) (And.intro ((hP.hp.below h hP.hp.1).of 0 _ rfl) (And.intro ((h.cell (p := ⟨g, i, none⟩) hgw).trans g0) (hP.op.below h hP.op.1).seven))
      have HQ := Lib.hid hq
      have HI := Lib.hid hi
      have hi' : q - 1 = (i : Int) := by omega
      have f0 : (i : Int) ≤ 2 := by omega
      have hw : IntKind.i64.wrap (i : Int) = (i : Int) := IntWalk.i64_in _ (by omega)
      have f1 : (0 : Int) ≤ (i : Int) := by omega
      have f2 : (i : Int) < (xs.length : Int) := by omega
      have f3 : (0 : Int) ≤ (k : Int) := by omega
      have f4 : (k : Int) < ((placesP o).length : Int) := by omega
      obtain ⟨pl, hpl⟩ : ∃ pl, plcP y.items q tx o = pl := ⟨_, rfl⟩
      have HPc := Lib.hid hpl
      have k0 := KC.out _ (Below.refl _ wr)
      clear hP he hq hi hy hoy huy hcy hfr hSj e0b e0c hpl g0
      go_upto_region 5 with fail
      go_cut [9] from 18 to 46 (fun u wc => ∃ qb ul uv S', u = .pointer (some ⟨qb, 0, none⟩) ∧ Held wc qb [.bool pl.ok, ul, uv] ∧ wrSh.Own 77 wc S' uv pl.writes ∧ (∀ b, S' b → wr.heap.size ≤ b ∧ b < wc.heap.size ∧ b ≠ qb) ∧ wr.heap.size ≤ qb ∧ Below wr.heap.size wr wc)
      case first =>
        refine wp_calm ?_
        refine wp_region_held_drew (S := (fun w' => w'.cell? ⟨w.heap.size, 0, none⟩ = some (.pointer (some ⟨p, 0, none⟩)) ∧ w'.cell? ⟨p, 0, none⟩ = some (.slice (some ⟨g, 0, none⟩) xs.length cap) ∧ w'.cell? ⟨g, i, none⟩ = some (.slice Ay y.items.length cyc) ∧ w'.cell? ⟨w.heap.size + 1, 0, none⟩ = some (.int .i64 o.kind) ∧ w'.cell? ⟨w.heap.size + 1, 1, none⟩ = some (.int .i64 o.who) ∧ w'.cell? ⟨w.heap.size + 1, 2, none⟩ = some (.int .i64 o.inn) ∧ w'.cell? ⟨w.heap.size + 1, 3, none⟩ = some (.int .i64 o.code) ∧ w'.cell? ⟨w.heap.size + 1, 4, none⟩ = some (.int .i64 o.sec) ∧ w'.cell? ⟨w.heap.size + 1, 5, none⟩ = some (.int .i64 o.fam) ∧ w'.cell? ⟨w.heap.size + 1, 6, none⟩ = some (.int .i64 o.gen))) (by kernel_rfl) ?hSz (fun hHeldz => ?stz)
        case hSz => (first | (dsimp only; (exact k0)) | (exact k0))
        refine take_first 0 18 (v := ?vz_1) rfl rfl (by kernel_rfl) (by kernel_rfl) (by kernel_rfl) (fun _ _ _ h => h) (by rfl) ?yz_1 (by assumption) ?rz_1
        case yz_1 => (intro w hSw; (try dsimp only at hSw); go_simp; (try with_reducible rfl))
        simp only [Act.put, List.setIfInBounds_toArray, List.set_cons_zero, List.set_cons_succ]
        refine take_first 1 19 (v := ?vz_2) rfl rfl (by kernel_rfl) (by kernel_rfl) (by kernel_rfl) (fun _ _ _ h => h) (by rfl) ?yz_2 (by assumption) ?rz_2
        case yz_2 => (intro w hSw; (try dsimp only at hSw); go_simp; (try with_reducible rfl))
        simp only [Act.put, List.setIfInBounds_toArray, List.set_cons_zero, List.set_cons_succ]
        refine take_first 2 20 (v := ?vz_3) rfl rfl (by kernel_rfl) (by kernel_rfl) (by kernel_rfl) (fun _ _ _ h => h) (by rfl) ?yz_3 (by assumption) ?rz_3
        case yz_3 => (intro w hSw; (try dsimp only at hSw); go_simp; (try with_reducible rfl))
        simp only [Act.put, List.setIfInBounds_toArray, List.set_cons_zero, List.set_cons_succ]
        refine take_first 3 21 (v := ?vz_4) rfl rfl (by kernel_rfl) (by kernel_rfl) (by kernel_rfl) (fun _ _ _ h => h) (by rfl) ?yz_4 (by assumption) ?rz_4
        case yz_4 => (intro w hSw; (try dsimp only at hSw); go_simp; (try with_reducible rfl))
        simp only [Act.put, List.setIfInBounds_toArray, List.set_cons_zero, List.set_cons_succ]
        refine take_first 4 22 (v := ?vz_5) rfl rfl (by kernel_rfl) (by kernel_rfl) (by kernel_rfl) (fun _ _ _ h => h) (by rfl) ?yz_5 (by assumption) ?rz_5
        case yz_5 => (intro w hSw; (try dsimp only at hSw); go_simp; (try with_reducible rfl))
        simp only [Act.put, List.setIfInBounds_toArray, List.set_cons_zero, List.set_cons_succ]
        refine take_first 5 23 (v := ?vz_6) rfl rfl (by kernel_rfl) (by kernel_rfl) (by kernel_rfl) (fun _ _ _ h => h) (by rfl) ?yz_6 (by assumption) ?rz_6
        case yz_6 => (intro w hSw; (try dsimp only at hSw); go_simp; (try with_reducible rfl))
        simp only [Act.put, List.setIfInBounds_toArray, List.set_cons_zero, List.set_cons_succ]
        refine take_first 6 24 (v := ?vz_7) rfl rfl (by kernel_rfl) (by kernel_rfl) (by kernel_rfl) (fun _ _ _ h => h) (by rfl) ?yz_7 (by assumption) ?rz_7
        case yz_7 => (intro w hSw; (try dsimp only at hSw); go_simp; (try with_reducible rfl))
        simp only [Act.put, List.setIfInBounds_toArray, List.set_cons_zero, List.set_cons_succ]
        refine take_first 7 25 (v := ?vz_8) rfl rfl (by kernel_rfl) (by kernel_rfl) (by kernel_rfl) (fun _ _ _ h => h) (by rfl) ?yz_8 (by assumption) ?rz_8
        case yz_8 => (intro w hSw; (try dsimp only at hSw); go_simp; (try with_reducible rfl))
        simp only [Act.put, List.setIfInBounds_toArray, List.set_cons_zero, List.set_cons_succ]
        refine take_first 8 26 (v := ?vz_9) rfl rfl (by kernel_rfl) (by kernel_rfl) (by kernel_rfl) (fun _ _ _ h => h) (by rfl) ?yz_9 (by assumption) ?rz_9
        case yz_9 => (intro w hSw; (try dsimp only at hSw); go_simp; (try with_reducible rfl))
        simp only [Act.put, List.setIfInBounds_toArray, List.set_cons_zero, List.set_cons_succ]
        refine take_first 9 27 (v := ?vz_10) rfl rfl (by kernel_rfl) (by kernel_rfl) (by kernel_rfl) (fun _ _ _ h => h) (by rfl) ?yz_10 (by assumption) ?rz_10
        case yz_10 => (intro w hSw; (try dsimp only at hSw); go_simp; (try with_reducible rfl))
        simp only [Act.put, List.setIfInBounds_toArray, List.set_cons_zero, List.set_cons_succ]
        refine take_first 10 28 (v := ?vz_11) rfl rfl (by kernel_rfl) (by kernel_rfl) (by kernel_rfl) (fun _ _ _ h => h) (by rfl) ?yz_11 (by assumption) ?rz_11
        case yz_11 => (intro w hSw; (try dsimp only at hSw); go_simp; (try with_reducible rfl))
        simp only [Act.put, List.setIfInBounds_toArray, List.set_cons_zero, List.set_cons_succ]
        refine wpAnyH_ready (rs := [11, 12]) (by kernel_rfl) (by simp) ?_
        refine AllReadyH.cons (o := _) rfl (fun Ka hKa => ?pKa) (AllReadyH.cons (o := _) rfl (fun Kb hKb => ?pKb) AllReadyH.nil)
        case pKa =>
          go_simp
          have hc := implPlcPlan_any wr.drew q (.slice Ay y.items.length cyc) y.items (KI.out _ (Below.refl _ wr).drew) tx o
          rw [HPc.out] at hc
          refine hc.mono ?_
          clear hc
          rintro e w8 ⟨u8, v8, rfl, ho8, hb8⟩
          obtain ⟨u9', v9', Sa, Sb, e8, hl8, hw8, -, sb, -⟩ := plan_own.1 ho8
          injection e8 with _ e8
          injection e8 with e8a e8
          injection e8 with e8b _
          subst e8a e8b
          obtain ⟨Al, cl, rfl, -, -⟩ := hl8.row.form
          obtain ⟨Aw, cw, rfl, -, -⟩ := hw8.row.form
          have HN8 := Lib.hid (show Below wr.heap.size wr w8 from belowNext ((Below.refl _ wr).drew) hb8)
          have HW8 := Lib.hid hw8
          have HSb := Lib.hid fun b (hs : Sb b) => (sb b hs)
          clear ho8 hl8 hw8 sb
          clear hb8
          have HN9 := Lib.hid (show Below wr.heap.size wr (w8.alloc (.cells #[.bool false, .slice none 0 0, .slice none 0 0] 41)) from HN8.out.alloc HN8.out.size _)
          have HNf := Lib.hid (show Below wr.heap.size wr (w8.alloc (.cells #[.bool pl.ok, .slice Al pl.locks.length cl, .slice Aw pl.writes.length cw] 41)) from HN8.out.alloc HN8.out.size _)
          go_wp2_with fail
          refine hKa.out _ _ ?kKa (fun _ => ?dKa)
          case kKa => exact KC.out _ HN8.out
          clear hKa Ka
          refine wpAnyH_ready (rs := [12]) (by kernel_rfl) (by simp) ?_
          refine AllReadyH.cons (o := _) rfl (fun Kc hKc => ?pKc) AllReadyH.nil
          go_simp
          go_wp2_with fail
          refine hKc.out _ _ ?kKc (fun _ => ?dKc)
          case kKc => exact KC.out _ HN9.out
          clear hKc Kc
          refine wpAnyH_ready (rs := [13]) (by kernel_rfl) (by simp) ?_
          refine AllReadyH.cons (o := _) rfl (fun Kd hKd => ?pKd) AllReadyH.nil
          go_simp
          go_wp2_with fail
          refine hKd.out _ _ ?kKd (fun _ => ?dKd)
          case kKd => exact KC.out _ HNf.out
          clear hKd Kd
          refine wpAnyH_done (by kernel_rfl) ?eKd _
          dsimp only [calm]
          go_wp2
          go_meet
          case rel => exact ⟨w8.heap.size, _, _, Sb, rfl, Held.new w8 #[.bool pl.ok, .slice Al pl.locks.length cl, .slice Aw pl.writes.length cw] _, HW8.out.below (belowOne w8 _), fun b hs => ⟨(HSb.out b hs).1, by rw [allocSize]; have := (HSb.out b hs).2; omega, by have := (HSb.out b hs).2; omega⟩, HN8.out.size, HNf.out⟩
        case pKb =>
          have HNa := Lib.hid (show Below wr.heap.size wr (wr.alloc (.cells #[.bool false, .slice none 0 0, .slice none 0 0] 41)).drew from (belowOne wr (.cells #[.bool false, .slice none 0 0, .slice none 0 0] 41)).drew)
          have HXa := Lib.hid (show Held (wr.alloc (.cells #[.bool false, .slice none 0 0, .slice none 0 0] 41)).drew wr.heap.size [.bool false, .slice none 0 0, .slice none 0 0] from Held.new wr #[.bool false, .slice none 0 0, .slice none 0 0] 41)
          go_simp
          go_wp2_with fail
          refine hKb.out _ _ ?kKb (fun _ => ?dKb)
          case kKb => exact KC.out _ HNa.out
          clear hKb Kb
          refine wpAnyH_ready (rs := [11]) (by kernel_rfl) (by simp) ?_
          refine AllReadyH.cons (o := _) rfl (fun Ke hKe => ?pKe) AllReadyH.nil
          go_simp
          have hc := implPlcPlan_any (wr.alloc (.cells #[.bool false, .slice none 0 0, .slice none 0 0] 41)).drew q (.slice Ay y.items.length cyc) y.items (KI.out _ HNa.out) tx o
          rw [HPc.out] at hc
          refine hc.mono ?_
          clear hc
          rintro e w8 ⟨u8, v8, rfl, ho8, hb8⟩
          obtain ⟨u9', v9', Sa, Sb, e8, hl8, hw8, -, sb, -⟩ := plan_own.1 ho8
          injection e8 with _ e8
          injection e8 with e8a e8
          injection e8 with e8b _
          subst e8a e8b
          obtain ⟨Al, cl, rfl, -, -⟩ := hl8.row.form
          obtain ⟨Aw, cw, rfl, -, -⟩ := hw8.row.form
          have HN8 := Lib.hid (show Below wr.heap.size wr w8 from belowNext (HNa.out) hb8)
          have HW8 := Lib.hid hw8
          have HSb := Lib.hid fun b (hs : Sb b) => (sb b hs)
          clear ho8 hl8 hw8 sb
          have HX8 := Lib.hid (HXa.out.below hb8 HXa.out.1)
          clear hb8
          go_wp2_with fail
          refine hKe.out _ _ ?kKe (fun _ => ?dKe)
          case kKe => exact KC.out _ HN8.out
          clear hKe Ke
          have HNf := Lib.hid (show Below wr.heap.size wr (put3 w8 wr.heap.size (.bool pl.ok) (.slice Al pl.locks.length cl) (.slice Aw pl.writes.length cw)) from belowPut3 HN8.out wr.heap.size (Nat.le_refl _) _ _ _)
          have r0 := HX8.out.of 0 _ rfl
          have r1 := HX8.out.of 1 _ rfl
          have r2 := HX8.out.of 2 _ rfl
          have rf := HX8.out.2.1
          refine wpAnyH_ready (rs := [13]) (by kernel_rfl) (by simp) ?_
          refine AllReadyH.cons (o := _) rfl (fun Kf hKf => ?pKf) AllReadyH.nil
          go_simp
          go_wp2_with fail
          refine hKf.out _ _ ?kKf (fun _ => ?dKf)
          case kKf => exact KC.out _ HNf.out
          clear hKf Kf r0 r1 r2 rf
          refine wpAnyH_done (by kernel_rfl) ?eKf _
          dsimp only [calm]
          go_wp2
          go_meet
          case rel => exact ⟨wr.heap.size, _, _, Sb, rfl, HX8.out.put3 _ _ _, HW8.out.keep fun b hs _ => put3_far _ _ _ _ _ (by have := (HSb.out b hs).1; have := allocSize wr (.cells #[.bool false, .slice none 0 0, .slice none 0 0] 41); show b ≠ wr.heap.size; have h7 : (wr.alloc (.cells #[.bool false, .slice none 0 0, .slice none 0 0] 41)).heap.size ≤ b := (HSb.out b hs).1; rw [allocSize] at h7; omega), fun b hs => ⟨by have h7 : (wr.alloc (.cells #[.bool false, .slice none 0 0, .slice none 0 0] 41)).heap.size ≤ b := (HSb.out b hs).1; rw [allocSize] at h7; omega, by rw [put3_size]; exact (HSb.out b hs).2, by have h7 : (wr.alloc (.cells #[.bool false, .slice none 0 0, .slice none 0 0] 41)).heap.size ≤ b := (HSb.out b hs).1; rw [allocSize] at h7; omega⟩, Nat.le_refl _, HNf.out⟩
      case rest =>
        obtain ⟨qb, ul, uv, S', rfl, hHq, hwq, hSq, hqw, hbq⟩ := hcut
        obtain ⟨L, hL⟩ : ∃ L, ((placesP o).take k).map (pendP xs tx o) = L := ⟨_, rfl⟩
        have h2 := HPI.out.next hbq
        rw [hL] at h2
        have HL := Lib.hid hL
        have HLm := Lib.hid (show L.length ≤ 1048576 by rw [← hL, List.length_map, List.length_take]; have := places_len o; omega)
        have HPc2 := Lib.hid h2
        have HS2 := Lib.hid fun b hs => (HPI.out.s2 b hs).2
        have hrw : w.heap.size + 1 + 1 < wr.heap.size := HPI.out.rs.1
        clear hL h2
        have b0 := hHq.of 0 _ rfl
        have HHq := Lib.hid hHq
        have HWq := Lib.hid hwq
        have HSq := Lib.hid hSq
        have HBq := Lib.hid hbq
        have hpw : p < w.heap.size := HPw.out
        have HOk : Hid (okP xs tx o q = pl.ok) := Lib.hid (by unfold okP; rw [HAt.out, HPc.out])
        have HPd : Hid (pendP xs tx o q = ⟨q, pl.writes⟩) := Lib.hid (by unfold pendP; rw [HAt.out, HPc.out])
        clear hHq hwq hSq hbq k0 cq HPI
        cases hok : pl.ok with
        | false =>
          rw [hok] at b0
          have HAll : Hid ((placesP o).all (okP xs tx o) = false) := Lib.hid (List.all_eq_false.2 ⟨q, List.mem_of_getElem? HQ.out, by rw [HOk.out, hok]; simp⟩)
          clear hok
          obtain rfl : B = false := HBb.out.symm.trans HAll.out
          have r0 := HPc2.out.rs.of 0 _ rfl
          have rf := HPc2.out.rs.2.1 0
          have HR1 := Lib.hid (HPc2.out.rs.set_ (i := 0) (.bool false))
          have HQ1 := Lib.hid (HPc2.out.bx.farS (p := ⟨w.heap.size + 1 + 1, 0, none⟩) (by show w.heap.size ≠ w.heap.size + 1 + 1; omega) (.bool false))
          have HP1 := Lib.hid (HPc2.out.hp.farS (p := ⟨w.heap.size + 1 + 1, 0, none⟩) (by show p ≠ w.heap.size + 1 + 1; omega) (.bool false))
          go_wp2
          refine leaves_cons (f := 77) (args := #[.pointer (some ⟨w.heap.size + 1 + 1, 0, none⟩), .pointer (some ⟨w.heap.size, 0, none⟩)]) (by simp) (by simp [go_sem]) ?_
          refine (planBack_any .returning _ (w.heap.size + 1 + 1) w.heap.size p false _ uw HR1.out HQ1.out HP1.out).mono ?_
          rintro e u' w'' ⟨rfl, rfl, rfl⟩
          have r1 := (HR1.out.farS (p := ⟨p, 1, none⟩) (by show w.heap.size + 1 + 1 ≠ p; omega) (.slice none 0 0)).of 0 _ rfl
          simp only [Bool.false_eq_true, if_false]
          obtain ⟨f1, f2, f3⟩ := HPc2.out.back hpw hp1 (.bool false)
          refine ⟨.bool false, by simp [results, Tryz.results38, go_sem, r1], rfl, ?_⟩
          exact ⟨_, f1, f2, f3⟩
        | true =>
          rw [hok] at b0
          have HF : Hid (∀ j z, j < k + 1 → (placesP o)[j]? = some z → okP xs tx o z = true) := Lib.hid fun j z hj hz => by
            rcases Nat.lt_or_ge j k with h1 | h1
            · exact HE.out j z h1 hz
            · have : j = k := by omega
              subst this
              rw [HQ.out] at hz
              injection hz with hz
              rw [← hz, HOk.out, hok]
          clear hok
          obtain ⟨Au, cu, rfl, hcu, hcu1⟩ := HPc2.out.pd.row.form
          obtain ⟨Aw, cw, rfl, -, -⟩ := HWq.out.row.form
          have HNa := Lib.hid (show Below wc.heap.size wc (wc.alloc (.cells #[.int .i64 q, .slice Aw pl.writes.length cw] 113)).drew from (belowOne wc (.cells #[.int .i64 q, .slice Aw pl.writes.length cw] 113)).drew)
          have HPn := Lib.hid (HPc2.out.next HNa.out)
          have HHn := Lib.hid (show Held (wc.alloc (.cells #[.int .i64 q, .slice Aw pl.writes.length cw] 113)).drew wc.heap.size [.int .i64 q, .slice Aw pl.writes.length cw] from Held.new wc #[.int .i64 q, .slice Aw pl.writes.length cw] 113)
          have HWn := Lib.hid (HWq.out.below HNa.out)
          have HQn := Lib.hid (HHq.out.below HNa.out HHq.out.1)
          have hwc := HBq.out.size
          have k0 := And.intro (HPc2.out.bx.of 0 _ rfl) (And.intro (HPc2.out.hp.of 1 _ rfl) (HHq.out.of 2 _ rfl))
          have k1 := And.intro (HPn.out.bx.of 0 _ rfl) (And.intro (HPn.out.hp.of 1 _ rfl) (HQn.out.of 2 _ rfl))
          go_wp2
          refine wp_calm ?_
          refine region_l (S := (fun w' => w'.cell? ⟨w.heap.size, 0, none⟩ = some (.pointer (some ⟨p, 0, none⟩)) ∧ w'.cell? ⟨p, 1, none⟩ = some (.slice Au L.length cu) ∧ w'.cell? ⟨qb, 2, none⟩ = some (.slice Aw pl.writes.length cw))) 13 (by kernel_rfl) ?hSy (fun hHeldy => ?sty)
          case hSy => (first | (dsimp only; (first | with_reducible exact k3 | with_reducible exact k1 | exact k0)) | (first | with_reducible exact k3 | with_reducible exact k1 | exact k0))
          refine take_l 0 33 (v := ?vy_1) rfl rfl (by kernel_rfl) (by kernel_rfl) (by kernel_rfl) (by kernel_rfl) (fun _ _ _ h => h) (by rfl) ?yy_1 (by assumption) ?ry_1
          case yy_1 => (intro w hSw; (try dsimp only at hSw); go_simp; (try with_reducible rfl))
          simp only [Act.put, List.setIfInBounds_toArray, List.set_cons_zero, List.set_cons_succ]
          refine take_l 1 34 (v := ?vy_2) rfl rfl (by kernel_rfl) (by kernel_rfl) (by kernel_rfl) (by kernel_rfl) (fun _ _ _ h => h) (by rfl) ?yy_2 (by assumption) ?ry_2
          case yy_2 => (intro w hSw; (try dsimp only at hSw); go_simp; (try with_reducible rfl))
          simp only [Act.put, List.setIfInBounds_toArray, List.set_cons_zero, List.set_cons_succ]
          refine take_l 2 35 (v := ?vy_3) rfl rfl (by kernel_rfl) (by kernel_rfl) (by kernel_rfl) (by kernel_rfl) (fun _ _ _ h => h) (by rfl) ?yy_3 (by assumption) ?ry_3
          case yy_3 => (intro w hSw; (try dsimp only at hSw); go_simp; (try with_reducible rfl))
          simp only [Act.put, List.setIfInBounds_toArray, List.set_cons_zero, List.set_cons_succ]
          refine take_l 3 36 (v := ?vy_4) rfl rfl (by kernel_rfl) (by kernel_rfl) (by kernel_rfl) (by kernel_rfl) (fun _ _ _ h => h) (by rfl) ?yy_4 (by assumption) ?ry_4
          case yy_4 => (intro w hSw; (try dsimp only at hSw); go_simp; (try with_reducible rfl))
          simp only [Act.put, List.setIfInBounds_toArray, List.set_cons_zero, List.set_cons_succ]
          refine take_l 4 37 (v := ?vy_5) rfl rfl (by kernel_rfl) (by kernel_rfl) (by kernel_rfl) (by kernel_rfl) (fun _ _ _ h => h) (by rfl) ?yy_5 (by assumption) ?ry_5
          case yy_5 => (intro w hSw; (try dsimp only at hSw); go_simp; (try with_reducible rfl))
          simp only [Act.put, List.setIfInBounds_toArray, List.set_cons_zero, List.set_cons_succ]
          refine take_l 5 38 (v := ?vy_6) rfl rfl (by kernel_rfl) (by kernel_rfl) (by kernel_rfl) (by kernel_rfl) (fun _ _ _ h => h) (by rfl) ?yy_6 (by assumption) ?ry_6
          case yy_6 => (intro w hSw; (try dsimp only at hSw); go_simp; (try with_reducible rfl))
          simp only [Act.put, List.setIfInBounds_toArray, List.set_cons_zero, List.set_cons_succ]
          refine take_l 6 39 (v := ?vy_7) rfl rfl (by kernel_rfl) (by kernel_rfl) (by kernel_rfl) (by kernel_rfl) (fun _ _ _ h => h) (by rfl) ?yy_7 (by assumption) ?ry_7
          case yy_7 => (intro w hSw; (try dsimp only at hSw); go_simp; (try with_reducible rfl))
          simp only [Act.put, List.setIfInBounds_toArray, List.set_cons_zero, List.set_cons_succ]
          refine take_l 7 40 (v := ?vy_8) rfl rfl (by kernel_rfl) (by kernel_rfl) (by kernel_rfl) (by kernel_rfl) (fun _ _ _ h => h) (by rfl) ?yy_8 (by assumption) ?ry_8
          case yy_8 => (intro w hSw; (try dsimp only at hSw); go_simp; (try with_reducible rfl))
          simp only [Act.put, List.setIfInBounds_toArray, List.set_cons_zero, List.set_cons_succ]
          refine take_l 8 41 (v := ?vy_9) rfl rfl (by kernel_rfl) (by kernel_rfl) (by kernel_rfl) (by kernel_rfl) (fun _ _ _ h => h) (by rfl) ?yy_9 (by assumption) ?ry_9
          case yy_9 => (intro w hSw; (try dsimp only at hSw); go_simp; (try with_reducible rfl))
          simp only [Act.put, List.setIfInBounds_toArray, List.set_cons_zero, List.set_cons_succ]
          refine one_l 9 rfl (by kernel_rfl) (fun Ky_10 hKy_10 => ?cy_10)
          go_simp
          skip
          go_wp2_with fail
          refine hKy_10.out _ _ ?ky_10 (fun hHoldy_10 => ?dy_10)
          case ky_10 => (intro _; (first | (dsimp only; (first | with_reducible exact k3 | with_reducible exact k1 | exact k0)) | (first | with_reducible exact k3 | with_reducible exact k1 | exact k0)))
          clear hKy_10 Ky_10
          have hHeldy_10 := hHoldy_10 (by decide)
          clear hHoldy_10
          refine one_l 10 rfl (by kernel_rfl) (fun Ky_11 hKy_11 => ?cy_11)
          rw [if_pos (by rfl)]
          refine app_pend (.tmp 37) (.tmp 42) rfl S2 S' _ L rfl HPn.out.pd wc.heap.size rfl [.int .i64 q, .slice Aw pl.writes.length cw] ⟨q, pl.writes⟩ (pend_own.2 ⟨_, rfl, HWn.out⟩) HHn.out (fun b h1 h2 => by have := HS2.out b h1; have := (HSq.out b h2).1; omega) HLm.out ?_; intro v9 w9 hv9 hg9 hw9; obtain ⟨A9, c9, hf9, -, -⟩ := hv9.row.form; subst hf9; have HV9 := Lib.hid hv9.cap; have HG9 := Lib.hid hg9; have HP9 := Lib.hid (HPn.out.hp.grown hg9 (fun e => by have := (HPn.out.s2 _ (HPn.out.own2 _ e)).1; omega)); have qf := HP9.out.2.1; have k3 := And.intro ((HPn.out.bx.grown hg9 (fun e => by have := (HPn.out.s2 _ (HPn.out.own2 _ e)).1; omega)).of 0 _ rfl) (And.intro (HP9.out.of 1 _ rfl) ((HQn.out.grown hg9 (fun e => by have := HS2.out _ (HPn.out.own2 _ e); omega)).of 2 _ rfl)); clear hv9 hg9 hw9
          refine hKy_11.out _ _ ?ky_11 (fun hHoldy_11 => ?dy_11)
          case ky_11 => (intro _; (first | (dsimp only; (first | with_reducible exact k3 | with_reducible exact k1 | exact k0)) | (first | with_reducible exact k3 | with_reducible exact k1 | exact k0)))
          clear hKy_11 Ky_11
          have hHeldy_11 := hHoldy_11 (by decide)
          clear hHoldy_11
          refine one_l 11 rfl (by kernel_rfl) (fun Ky_12 hKy_12 => ?cy_12)
          go_simp
          skip
          go_wp2_with fail
          refine hKy_12.out _ _ ?ky_12 (fun hHoldy_12 => ?dy_12)
          case ky_12 => (intro _; (first | (dsimp only; (first | with_reducible exact k3 | with_reducible exact k1 | exact k0)) | (first | with_reducible exact k3 | with_reducible exact k1 | exact k0)))
          clear hKy_12 Ky_12
          have hHeldy_12 := hHoldy_12 (by decide)
          clear hHoldy_12
          refine take_l 12 45 (v := ?vy_13) rfl rfl (by kernel_rfl) (by kernel_rfl) (by kernel_rfl) (by kernel_rfl) (fun _ _ _ h => h) (by rfl) ?yy_13 (by assumption) ?ry_13
          case yy_13 => (intro w hSw; (try dsimp only at hSw); go_simp; (try with_reducible rfl))
          simp only [Act.put, List.setIfInBounds_toArray]
          refine one_l 13 rfl (by kernel_rfl) (fun Ky_14 hKy_14 => ?cy_14)
          go_simp
          skip
          go_wp2_with fail
          refine hKy_14.out _ _ ?ky_14 (fun hHoldy_14 => ?dy_14)
          case ky_14 => exact fun h => absurd rfl h
          clear hKy_14 Ky_14
          clear hHoldy_14
          refine done_l (by kernel_rfl) ?ey _
          have HT0 := (HPn.out.grow hpw hp1 HV9.out HG9.out (fun b hb => ⟨by rcases hb.1 with h | h | h; exact (HPn.out.s2 b h).1; have := (HSq.out b h).1; omega; (have h7 : b = (wc.alloc (.cells #[.int .i64 q, .slice Aw pl.writes.length cw] 113)).heap.size := h); rw [allocSize] at h7; omega, hb.2⟩) (fun b hb e => by have e' : gv = b := Option.some.inj e; rcases hb.1 with h | h | h; exact HPn.out.ap b h e; have := (HSq.out b h).1; omega; (have h7 : b = (wc.alloc (.cells #[.int .i64 q, .slice Aw pl.writes.length cw] 113)).heap.size := h); rw [allocSize] at h7; omega))
          rw [List.length_append] at HT0
          have HT := Lib.hid HT0
          clear k0 k1 k3 qf b0 HT0
          dsimp only [calm]
          go_wp2
          go_roundw
          case rel => exact ⟨k + 1, _, _, by omega, by go_num, HF.out, by rw [take_snoc HQ.out, List.map_append, HL.out, List.map_cons, List.map_nil, HPd.out]; exact HT.out⟩
          case measure => simp [intOf]; omega
    · clear hP he
      have HOk : Hid ((placesP o).all (okP xs tx o) = true) := Lib.hid (List.all_eq_true.2 fun q hq => by
        obtain ⟨j, hj, rfl⟩ := List.getElem_of_mem hq
        exact HE.out j _ (by omega) (List.getElem?_eq_getElem hj))
      obtain rfl : B = true := HBb.out.symm.trans HOk.out
      have r0 := HPI.out.rs.of 0 _ rfl
      have rf := HPI.out.rs.2.1 0
      have HA : Hid (PlI w p us xs o S1 (.slice Av (placesP o).length cv) uw S2 ((placesP o).map (pendP xs tx o)) _) := Lib.hid (by have h := HPI.out; rw [List.take_of_length_le (by omega)] at h; exact h)
      have HR1 := Lib.hid (HPI.out.rs.set_ (i := 0) (.bool true))
      have HQ1 := Lib.hid (HPI.out.bx.farS (p := ⟨w.heap.size + 1 + 1, 0, none⟩) (by show w.heap.size ≠ w.heap.size + 1 + 1; omega) (.bool true))
      have hpw : p < w.heap.size := HPw.out
      have HP1 := Lib.hid (HPI.out.hp.farS (p := ⟨w.heap.size + 1 + 1, 0, none⟩) (by show p ≠ w.heap.size + 1 + 1; omega) (.bool true))
      go_wp2
      refine leaves_cons (f := 77) (args := #[.pointer (some ⟨w.heap.size + 1 + 1, 0, none⟩), .pointer (some ⟨w.heap.size, 0, none⟩)]) (by simp) (by simp [go_sem]) ?_
      refine (planBack_any .returning _ (w.heap.size + 1 + 1) w.heap.size p true us uw HR1.out HQ1.out HP1.out).mono ?_
      rintro e u' w'' ⟨rfl, rfl, rfl⟩
      have r1 := HR1.out.of 0 _ rfl
      simp only [if_true]
      refine ⟨.bool true, by simp [results, Tryz.results38, go_sem, r1], rfl, ?_⟩
      obtain ⟨f1, f2, f3⟩ := HA.out.fin hpw (.bool true)
      exact ⟨_, f1, f2, f3⟩

end Go.Proofs.YtecdibpiojgppaaGreat
