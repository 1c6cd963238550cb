/- Texts that follow each other, merged: CopyI, ShapesSto, CopyS, SGlo1. -/
import Derived.Test.YtecdibpiojgppaaGreatXWrts
import Derived.Test.YtecdibpiojgppaaGreatXExItems
import Derived.Test.YtecdibpiojgppaaGreatXHStr
import Derived.Deep.RegionHeld3
import Derived.Test.YtecdibpiojgppaaGreatXIntsOne
import Derived.Test.YtecdibpiojgppaaGreatXWrite

/- The program's copy of things. -/
namespace Go.Proofs.YtecdibpiojgppaaGreat
open Go.RowKit

theorem OwnInts.sh {w : World} {lo : Nat} {v : Value} {xs : List Int} (h : OwnInts w lo v xs) : Sh.int.Own 3 w (fun b => lo ≤ b ∧ b < w.heap.size) v xs := by
  have hf : xs.map (Value.int .i64) = flat (fun j => [.int .i64 (nth xs j)]) xs.length := by
    refine flat_ext (d := 1) (fun _ _ => rfl) (by simp) fun j i hj hi => ?_
    have hi0 : i = 0 := by omega
    subst hi0
    simp only [Nat.mul_one, Nat.add_zero, nth_map hj]
    rfl
  refine ⟨fun j => [.int .i64 (nth xs j)], fun _ _ => False, ?_, fun g hg => h.lt g hg, fun j x hx => ⟨?_, fun _ h => h.elim⟩, fun _ _ _ _ _ h => h.elim⟩
  · refine ⟨?_, ?_⟩
    · rw [← hf]; simp [Sh.int]
    · rcases h.2 with hn | ⟨g, cap, cur, hv, hb, hg, h1, h2, h3, h4⟩
      · exact .inl hn
      · exact .inr ⟨g, cap, cur, hv, Nat.zero_le _, hg, h1, h2, h3, by rw [← hf]; exact h4⟩
  · show [Value.int .i64 (nth xs j)] = [Value.int .i64 x]
    obtain ⟨hj, e⟩ := List.getElem?_eq_some_iff.1 hx
    rw [nth_get hj, e]
theorem Sh.Own.blk {α : Type} {A : Sh α} {e : TypeId} {w : World} {S : Nat → Prop} {v : Value} {xs : List α} (h : A.Own e w S v xs) : ∀ g, v.ownBlock = some g → S g := by
  obtain ⟨_, _, _, h2, _⟩ := h
  exact h2
theorem clone_sh (w : World) (v : Value) (xs : List Int) (hv : Ints w w.heap.size v xs) (hl : xs.length ≤ 1048576) :
    Calls Tryz.prog 59 #[v] w (CopiedSl Sh.int 3 xs w) :=
  (clone_any w v xs hv hl).mono fun _ _ ⟨u, he, ho, hb⟩ => ⟨u, he, ho.sh, hb⟩
/-- append of one thing that lies in a block of its own. -/
theorem app_its {o : Oper} {a : Act} {w : World} {K : Act → World → Prop} {Q : Exit → Act → World → Prop} (s x : Operand)
    (ho : o.op = .call { callee := .builtin .append, args := #[s, x], argTypes := #[91, 91] }) (S S' : Nat → Prop) (v : Value) (xs : List Item) (hs : a.eval s = v) (hv : itSh.Own 95 w S v xs)
    (B : Nat) (hx : a.eval x = .slice (some ⟨B, 0, none⟩) 1 1) (cs : List Value) (y : Item) (hy : itSh.own w S' cs y) (hsrc : Held w B cs) (hdis : ∀ b, S b → ¬ S' b) (hl : xs.length ≤ 1048576)
    (h : ∀ v' w', itSh.Own 95 w' (fun b => S b ∨ S' b ∨ b = w.heap.size) v' (xs ++ [y]) → w.grownBy w' v.ownBlock → K (a.put o.dst v') w') :
    Oper.wp Tryz.prog o a w K Q := by
  obtain ⟨i, hi, hz, hsz, hb⟩ := infoItemParts
  obtain ⟨v', w', hr, h2, h3, h4⟩ := Sh.append_one (P := Tryz.prog) (A := itSh) i _ 40 Tryz.underlying91 hi hz hsz hb rfl (by decide) hv B cs y hy hsrc hdis o.type hl (by omega)
  unfold Oper.wp execOp
  simp only [ho, resolve, invoke, builtin, Sem.run_bind, Sem.run_pure, Result.andThen_ok, List.map_toArray, List.map_cons, List.map_nil, hs, hx, hr]
  exact h v' w' h2 h3
theorem allocSize (w : World) (x : Obj) : (w.alloc x).heap.size = w.heap.size + 1 := by simp
theorem made0Its (n : Nat) (hbytes : 40 * n ≤ 281474976710656) (w : World) :
    (Instr.makeSlice 91 (.int .i64 0) (.int .i64 (n : Int))).run Tryz.prog w = .ok (.slice (some ⟨w.heap.size, 0, none⟩) 0 n) (w.alloc (.cells (madeCells #[.string ByteArray.empty, .slice none 0 0] (n * 2)) 95)) := by
  obtain ⟨i, hi, hz, hs, hb⟩ := infoItemParts
  have hb' : (i.bytes : Int) * (n : Int) ≤ 281474976710656 := by
    have h : ((i.bytes * n : Nat) : Int) ≤ 281474976710656 := by rw [hb]; omega
    rwa [Int.natCast_mul] at h
  have hr := run_make (P := Tryz.prog) w 91 95 i _ Tryz.underlying91 hi hz .i64 .i64 0 n (by omega) (by omega) hb' (by omega)
  simp only [Int.toNat_natCast, hs] at hr
  exact hr

set_option maxRecDepth 100000 in
set_option maxHeartbeats 2000000 in
theorem copyItems_any (w : World) (v : Value) (its : List Item) (hv : Items w w.heap.size v its) (hl : its.length ≤ 1048576) (hsh : Short its its.length) :
    Calls Tryz.prog 56 #[v] w (CopiedSl itSh 95 its w) := by
  obtain ⟨A, c, rfl, hc2, hc1⟩ := hv.form
  unfold maxLen at hc2
  have hmk := fun W => made0Its its.length (by omega) W
  have HM := Lib.hid (Sh.Own.made0 itSh 95 w its.length (by unfold maxLen; omega))
  have HW := Lib.hid (belowOne w (.cells (madeCells #[.string ByteArray.empty, .slice none 0 0] (its.length * 2)) 95))
  go_enter Tryz.func56, Tryz.ntmps56
  go_wp2
  clear hmk
  go_loopw [3, 11] (fun l i wr => ∃ (k : Nat) (Al : Option Addr) (cl : Nat), k ≤ its.length ∧ i = .int .i64 k ∧ l = .slice Al k cl ∧ itSh.Own 95 wr (fun b => w.heap.size ≤ b ∧ b < wr.heap.size) (.slice Al k cl) (its.take k) ∧ Below w.heap.size w wr) (fun _ i _ => its.length - (intOf i).toNat)
  case atStart => exact ⟨0, _, _, Nat.zero_le _, rfl, rfl, HM.out.mono fun b hb => ⟨by omega, by simp; omega⟩, HW.out⟩
  case round =>
    clear HM HW
    obtain ⟨k, Al, cl, hk, rfl, rfl, ho, hb⟩ := hrel
    by_cases hlt : k < its.length
    · obtain ⟨b, off, c', it, u, e1, hit, hB, hs, ck, cu, hu⟩ := (hv.below hb).at_ (k := k) hlt
      obtain ⟨A', c'', hu', hu2, hu3⟩ := hu.form
      subst hu'
      injection e1 with e1a e1b e1c
      subst e1a
      have hvl : it.val.length ≤ 1048576 := (hsh k it hlt hit).2
      have htl : (its.take k).length ≤ 1048576 := by rw [List.length_take]; omega
      have HX := Lib.hid (Held.new wr #[.string it.key, .slice A' it.val.length c''] 95)
      have HB := Lib.hid (hb.alloc hb.size (.cells #[.string it.key, .slice A' it.val.length c''] 95))
      have HO := Lib.hid (ho.below (belowOne wr (.cells #[.string it.key, .slice A' it.val.length c''] 95)))
      have HU := Lib.hid (show Ints ((wr.alloc (.cells #[.string it.key, .slice A' it.val.length c''] 95)).drew) w.heap.size _ it.val from hu.alloc hb.size (.cells #[.string it.key, .slice A' it.val.length c''] 95))
      have HI := Lib.hid hit
      have hzr := hb.size
      clear e1b e1c hv hu hit hb ho hsh
      have k0 := And.intro (HX.out.of 0 _ rfl) (HX.out.of 1 _ rfl)
      go_wp2
      refine wp_region_held_drew (S := (fun w' => w'.cell? ⟨wr.heap.size, 0, none⟩ = some (.string it.key) ∧ w'.cell? ⟨wr.heap.size, 1, none⟩ = some (.slice A' it.val.length c''))) (by kernel_rfl) ?hSr (fun hHeldr => ?str)
      case hSr => (first | (dsimp only; (first | with_reducible exact k3 | with_reducible exact k2 | with_reducible exact k1 | exact k0)) | (first | with_reducible exact k3 | with_reducible exact k2 | with_reducible exact k1 | exact k0))
      refine take_first 0 15 (v := ?vr_1) rfl rfl (by kernel_rfl) (by kernel_rfl) (by kernel_rfl) (fun _ _ _ h => h) (by rfl) ?yr_1 (by assumption) ?rr_1
      case yr_1 => (intro w hSw; (try dsimp only at hSw); go_simp; (try with_reducible rfl))
      simp only [Act.put, List.setIfInBounds_toArray, List.set_cons_zero, List.set_cons_succ]
      refine take_first 1 16 (v := ?vr_2) rfl rfl (by kernel_rfl) (by kernel_rfl) (by kernel_rfl) (fun _ _ _ h => h) (by rfl) ?yr_2 (by assumption) ?rr_2
      case yr_2 => (intro w hSw; (try dsimp only at hSw); go_simp; (try with_reducible rfl))
      simp only [Act.put, List.setIfInBounds_toArray, List.set_cons_zero, List.set_cons_succ]
      refine take_first 2 17 (v := ?vr_3) rfl rfl (by kernel_rfl) (by kernel_rfl) (by kernel_rfl) (fun _ _ _ h => h) (by rfl) ?yr_3 (by assumption) ?rr_3
      case yr_3 => (intro w hSw; (try dsimp only at hSw); go_simp; (try with_reducible rfl))
      simp only [Act.put, List.setIfInBounds_toArray, List.set_cons_zero, List.set_cons_succ]
      refine take_first 3 18 (v := ?vr_4) rfl rfl (by kernel_rfl) (by kernel_rfl) (by kernel_rfl) (fun _ _ _ h => h) (by rfl) ?yr_4 (by assumption) ?rr_4
      case yr_4 => (intro w hSw; (try dsimp only at hSw); go_simp; (try with_reducible rfl))
      simp only [Act.put, List.setIfInBounds_toArray, List.set_cons_zero, List.set_cons_succ]
      refine take_first 4 19 (v := ?vr_5) rfl rfl (by kernel_rfl) (by kernel_rfl) (by kernel_rfl) (fun _ _ _ h => h) (by rfl) ?yr_5 (by assumption) ?rr_5
      case yr_5 => (intro w hSw; (try dsimp only at hSw); go_simp; (try with_reducible rfl))
      simp only [Act.put, List.setIfInBounds_toArray, List.set_cons_zero, List.set_cons_succ]
      refine wpAnyH_ready (rs := [5]) (by kernel_rfl) (by simp) ?_
      refine AllReadyH.cons (o := _) rfl (fun Kr_6 hKr_6 => ?cr_6) ?mr_6
      case mr_6 => exact AllReadyH.nil
      go_simp
      refine (clone_sh _ _ it.val (HU.out.more (by show _ ≤ (World.alloc _ _).heap.size; simp; omega)) hvl).mono ?_; rintro e w1 ⟨u1, rfl, hu1, hb1⟩; obtain ⟨A1, c1, hf1, -, -⟩ := hu1.row.form; subst hf1; have HX1 := Lib.hid (HX.out.onward hb1 rfl); have k1 := And.intro (HX1.out.of 0 _ rfl) (HX1.out.of 1 _ rfl); have HX2 := Lib.hid (HX1.out.after (.cells #[.string it.key, .slice A1 it.val.length c1] 95)); have k2 := And.intro (HX2.out.of 0 _ rfl) (HX2.out.of 1 _ rfl); have HO2 := Lib.hid ((Sh.Own.below (w := (wr.alloc (.cells #[.string it.key, .slice A' it.val.length c''] 95)).drew) HO.out hb1).below (belowOne w1 (.cells #[.string it.key, .slice A1 it.val.length c1] 95))); have hz1 : wr.heap.size < w1.heap.size := HX1.out.1; have HB2 := Lib.hid ((HB.out.drew.trans (hb1.mono (by show _ ≤ (World.alloc _ _).heap.size; simp; omega))).alloc (by omega) (.cells #[.string it.key, .slice A1 it.val.length c1] 95)); have HU2 := Lib.hid (Sh.Own.mono (S' := fun b => wr.heap.size < b ∧ b < w1.heap.size) (hu1.below (belowOne w1 (.cells #[.string it.key, .slice A1 it.val.length c1] 95))) (fun b hb => ⟨by have h := hb.1; have h2 : (wr.alloc (.cells #[.string it.key, .slice A' it.val.length c''] 95)).drew.heap.size = wr.heap.size + 1 := (by show (World.alloc _ _).heap.size = _; simp); omega, hb.2⟩)); clear hu1 hb1
      go_wp2_with fail
      refine hKr_6.out _ _ ?kr_6 (fun hHeldr_6 => ?dr_6)
      case kr_6 => (first | (dsimp only; (first | with_reducible exact k3 | with_reducible exact k2 | with_reducible exact k1 | exact k0)) | (first | with_reducible exact k3 | with_reducible exact k2 | with_reducible exact k1 | exact k0))
      clear hKr_6 Kr_6
      refine take_first 6 21 (v := ?vr_7) rfl rfl (by kernel_rfl) (by kernel_rfl) (by kernel_rfl) (fun _ _ _ h => h) (by rfl) ?yr_7 (by assumption) ?rr_7
      case yr_7 => (intro w hSw; (try dsimp only at hSw); go_simp; (try with_reducible rfl))
      simp only [Act.put, List.setIfInBounds_toArray, List.set_cons_zero, List.set_cons_succ]
      refine wpAnyH_ready (rs := [7]) (by kernel_rfl) (by simp) ?_
      refine AllReadyH.cons (o := _) rfl (fun Kr_8 hKr_8 => ?cr_8) ?mr_8
      case mr_8 => exact AllReadyH.nil
      go_simp
      skip
      go_wp2_with fail
      refine hKr_8.out _ _ ?kr_8 (fun hHeldr_8 => ?dr_8)
      case kr_8 => (first | (dsimp only; (first | with_reducible exact k3 | with_reducible exact k2 | with_reducible exact k1 | exact k0)) | (first | with_reducible exact k3 | with_reducible exact k2 | with_reducible exact k1 | exact k0))
      clear hKr_8 Kr_8
      refine wpAnyH_ready (rs := [8]) (by kernel_rfl) (by simp) ?_
      refine AllReadyH.cons (o := _) rfl (fun Kr_9 hKr_9 => ?cr_9) ?mr_9
      case mr_9 => exact AllReadyH.nil
      rw [if_pos (by rfl)]
      refine app_its (.tmp 15) (.tmp 22) rfl _ _ _ (its.take k) rfl HO2.out w1.heap.size rfl [.string it.key, .slice A1 it.val.length c1] it (it_own.2 ⟨_, rfl, hs, HU2.out⟩) (Held.new w1 _ _) (fun b hb hb2 => by have := hb.2; have := hb2.1; omega) htl ?_; intro v3 w3 ho3 hg3; obtain ⟨A3, c3, hf3, -, -⟩ := ho3.row.form; subst hf3; have HX3 := Lib.hid (HX2.out.outs (Outs.of_grown (S := fun b => w.heap.size ≤ b ∧ b < wr.heap.size) hg3 (HO2.out.blk)) (fun h => by have := h.2; omega)); have k3 := And.intro (HX3.out.of 0 _ rfl) (HX3.out.of 1 _ rfl); have HO3 := Lib.hid ho3; have HG3 := Lib.hid hg3; clear ho3 hg3
      refine hKr_9.out _ _ ?kr_9 (fun hHeldr_9 => ?dr_9)
      case kr_9 => (first | (dsimp only; (first | with_reducible exact k3 | with_reducible exact k2 | with_reducible exact k1 | exact k0)) | (first | with_reducible exact k3 | with_reducible exact k2 | with_reducible exact k1 | exact k0))
      clear hKr_9 Kr_9
      refine take_first 9 3 (v := ?vr_10) rfl rfl (by kernel_rfl) (by kernel_rfl) (by kernel_rfl) (fun _ _ _ h => h) (by rfl) ?yr_10 (by assumption) ?rr_10
      case yr_10 => (intro w hSw; (try dsimp only at hSw); go_simp; (try with_reducible rfl))
      simp only [Act.put, List.setIfInBounds_toArray]
      refine wpAnyH_done (by kernel_rfl) ?er _
      have HB3 := Lib.hid (HB2.out.grown HG3.out (by simp; omega) (fun q hq => (HO2.out.blk q hq).1))
      have hz3 := HG3.out.size
      rw [allocSize] at hz3
      have HF := Lib.hid (Sh.Own.mono (S' := fun b => w.heap.size ≤ b ∧ b < w3.heap.size) HO3.out.cap (fun b hb => by
        refine ⟨?_, hb.2⟩
        rcases hb.1 with hb | hb | hb
        · exact hb.1
        · have := hb.1; omega
        · rw [hb, allocSize]; omega))
      have htk := take_snoc HI.out
      rw [List.length_append, List.length_take, Nat.min_eq_left hk] at HF
      rw [← htk] at HF
      clear htk HO3 HG3 HX3 HO2 HX2 HU2 HX1 HX HO HU k0 k1 k2 k3
      go_wp2
      go_roundw
      case rel => exact ⟨k + 1, A3, c3, by omega, by go_num, rfl, HF.out, HB3.out⟩
      case measure => simp [intOf]; omega
    · have hks : k = its.length := by omega
      have HO : Hid (itSh.Own 95 wr (fun b => w.heap.size ≤ b ∧ b < wr.heap.size) (.slice Al k cl) its) := by
        exact Lib.hid (by have h := ho; rwa [show its.take k = its from List.take_of_length_le (by omega)] at h)
      clear hks hv ho
      go_wp2
      go_ret
      exact ⟨_, rfl, HO.out, hb⟩

end Go.Proofs.YtecdibpiojgppaaGreat

/- The shape of what a place keeps, and of what some places keep. -/
namespace Go.Proofs.YtecdibpiojgppaaGreat
open Go.RowKit

/-- What a place keeps. -/
structure Sto where
  items : List Item
def stoSh : Sh Sto := itsSh.conv (fun x => x.items) (fun p => ⟨p⟩) rfl
abbrev stosSh : Sh (List Sto) := stoSh.sl 35 (by decide)
section
variable {w : World} {B : Nat} {S : Nat → Prop} {v : Value}
theorem sto_rel {cs : List Value} {x : Sto} : stoSh.rel w B cs x ↔ ∃ u, cs = [u] ∧ itSh.Row w B u x.items := Iff.rfl
theorem sto_own {cs : List Value} {x : Sto} : stoSh.own w S cs x ↔ ∃ u, cs = [u] ∧ itSh.Own 95 w S u x.items := Iff.rfl
/-- What one of some places keeps. -/
theorem stos_at {xs : List Sto} (h : stoSh.Row w B v xs) {k : Nat} (hk : k < xs.length) : ∃ b off c x u, v = .slice (some ⟨b, off, none⟩) xs.length c ∧ xs[k]? = some x ∧ b < B ∧ w.cell? ⟨b, off + k, none⟩ = some u ∧ itSh.Row w B u x.items := by
  obtain ⟨b, off, c, x, cs, hv, hx, hb, ⟨u, rfl, hu⟩, hc⟩ := h.at_ hk
  have := hc 0 _ rfl
  have hwd : stoSh.wd = 1 := rfl
  rw [hwd] at this
  exact ⟨b, off, c, x, u, hv, hx, hb, by simpa using this, hu⟩
end

end Go.Proofs.YtecdibpiojgppaaGreat

/- The program's copy of what some places keep. -/
namespace Go.Proofs.YtecdibpiojgppaaGreat
open Go.RowKit

theorem infoSto2 : (Tryz.prog.info? 35).map (fun i => (i.zero, i.size, i.bytes)) = some (some (.agg #[.slice none 0 0]), 1, 24) := by kernel_rfl
theorem infoStoParts : ∃ i, Tryz.prog.info? 35 = some i ∧ i.zero = some (.agg #[.slice none 0 0]) ∧ i.size = 1 ∧ i.bytes = 24 := by
  obtain ⟨i, hi, hzz⟩ := Option.map_eq_some_iff.1 infoSto2
  simp only [Prod.mk.injEq] at hzz
  exact ⟨i, hi, hzz.1, hzz.2.1, hzz.2.2⟩
theorem made0Stos (n : Nat) (hbytes : 24 * n ≤ 281474976710656) (w : World) :
    (Instr.makeSlice 23 (.int .i64 0) (.int .i64 (n : Int))).run Tryz.prog w = .ok (.slice (some ⟨w.heap.size, 0, none⟩) 0 n) (w.alloc (.cells (madeCells #[.slice none 0 0] n) 35)) := by
  obtain ⟨i, hi, hz, hs, hb⟩ := infoStoParts
  have hb' : (i.bytes : Int) * (n : Int) ≤ 281474976710656 := by
    have h : ((i.bytes * n : Nat) : Int) ≤ 281474976710656 := by rw [hb]; omega
    rwa [Int.natCast_mul] at h
  have hr := run_make (P := Tryz.prog) w 23 35 i _ Tryz.underlying23 hi hz .i64 .i64 0 n (by omega) (by omega) hb' (by omega)
  simp only [Int.toNat_natCast, hs, Nat.mul_one] at hr
  exact hr
/-- append of one store that lies in a block of its own, for the walk. -/
theorem wpl_append_sto {w : World} {ops : Array Oper} {rest : List Oper} {o : Oper} {a : Act} {Q : Exit → Act → World → Prop} (hgd : o.guard = none) (s x : Operand)
    (ho : o.op = .call { callee := .builtin .append, args := #[s, x], argTypes := #[23, 23] }) (S S' : Nat → Prop) (v : Value) (xs : List Sto) (hs : a.eval s = v) (hv : stoSh.Own 35 w S v xs)
    (B : Nat) (hx : a.eval x = .slice (some ⟨B, 0, none⟩) 1 1) (cs : List Value) (y : Sto) (hy : stoSh.own w S' cs y) (hsrc : Held w B cs) (hdis : ∀ b, S b → ¬ S' b) (hl : xs.length ≤ 1048576)
    (h : ∀ v' w', stoSh.Own 35 w' (fun b => S b ∨ S' b ∨ b = w.heap.size) v' (xs ++ [y]) → w.grownBy w' v.ownBlock → wpList Tryz.prog ops Q rest (a.put o.dst v') w') : wpList Tryz.prog ops Q (o :: rest) a w := by
  refine wpList_plain hgd fun K hK => ?_
  obtain ⟨i, hi, hz, hsz, hb⟩ := infoStoParts
  obtain ⟨v', w', hr, h2, h3, h4⟩ := Sh.append_one (P := Tryz.prog) (A := stoSh) i _ 24 Tryz.underlying23 hi hz hsz hb rfl (by decide) hv B cs y hy hsrc hdis o.type hl (by omega)
  unfold Oper.wp execOp
  simp only [ho, resolve, invoke, builtin, Sem.run_bind, Sem.run_pure, Result.andThen_ok, List.map_toArray, List.map_cons, List.map_nil, hs, hx, hr]
  exact hK _ _ (h v' w' h2 h3)

set_option maxRecDepth 100000 in
set_option maxHeartbeats 2000000 in
theorem copyStores_any (w : World) (v : Value) (xs : List Sto) (hv : stoSh.Row w w.heap.size v xs) (hl : xs.length ≤ 1048576) (hsh : ∀ x ∈ xs, x.items.length ≤ 1048576 ∧ Short x.items x.items.length) :
    Calls Tryz.prog 37 #[v] w (CopiedSl stoSh 35 xs w) := by
  obtain ⟨A, c, rfl, hc2, hc1⟩ := hv.form
  unfold maxLen at hc2
  have hmk := fun W => made0Stos xs.length (by omega) W
  have HM := Lib.hid (show stoSh.Own 35 (w.alloc (.cells (madeCells #[.slice none 0 0] xs.length) 35)) (fun b => b = w.heap.size) (.slice (some ⟨w.heap.size, 0, none⟩) 0 xs.length) [] from by
    have h := Sh.Own.made0 stoSh 35 w xs.length (by unfold maxLen; omega)
    rwa [show xs.length * stoSh.wd = xs.length from Nat.mul_one _] at h)
  have HW := Lib.hid (belowOne w (.cells (madeCells #[.slice none 0 0] xs.length) 35))
  go_enter Tryz.func37, Tryz.ntmps37
  go_wp2
  clear hmk
  go_loopw [3, 11] (fun l i wr => ∃ (k : Nat) (Al : Option Addr) (cl : Nat), k ≤ xs.length ∧ i = .int .i64 k ∧ l = .slice Al k cl ∧ stoSh.Own 35 wr (fun b => w.heap.size ≤ b ∧ b < wr.heap.size) (.slice Al k cl) (xs.take k) ∧ Below w.heap.size w wr) (fun _ i _ => xs.length - (intOf i).toNat)
  case atStart => exact ⟨0, _, _, Nat.zero_le _, rfl, rfl, HM.out.mono fun b hb => ⟨by omega, by simp; omega⟩, HW.out⟩
  case round =>
    clear HM HW
    obtain ⟨k, Al, cl, hk, rfl, rfl, ho, hb⟩ := hrel
    by_cases hlt : k < xs.length
    · obtain ⟨b, off, c', x, u, e1, hx, hB, cu, hu⟩ := stos_at (hv.below hb) (k := k) hlt
      obtain ⟨A', c'', hu', -, -⟩ := hu.form
      subst hu'
      injection e1 with e1a e1b e1c
      subst e1a
      obtain ⟨hxl, hxs⟩ := hsh x (List.mem_of_getElem? hx)
      have htl : (xs.take k).length ≤ 1048576 := by rw [List.length_take]; omega
      have HO := Lib.hid (ho.below (belowOne wr (.cells #[.slice A' x.items.length c''] 35)))
      have HB := Lib.hid (hb.alloc hb.size (.cells #[.slice A' x.items.length c''] 35))
      have HU := Lib.hid (items_row.1 ((hu.alloc hb.size (.cells #[.slice A' x.items.length c''] 35)).more (B' := (wr.alloc (.cells #[.slice A' x.items.length c''] 35)).heap.size) (by have := hb.size; simp; omega)))
      have HI := Lib.hid hx
      have HSh := Lib.hid hxs
      have hzr := hb.size
      clear e1b e1c hv hu hx hb ho hsh hxs
      go_wp2_with fail
      refine (copyItems_any _ _ x.items HU.out hxl HSh.out).mono ?_
      rintro e w1 ⟨u1, rfl, hu1, hb1⟩
      obtain ⟨A1, c1, hf1, -, -⟩ := hu1.row.form
      subst hf1
      have hz1 := hb1.size
      rw [allocSize] at hz1 hu1
      have HO2 := Lib.hid ((HO.out.below hb1).below (belowOne w1 (.cells #[.slice A1 x.items.length c1] 35)))
      have HB2 := Lib.hid ((HB.out.trans (hb1.mono (by rw [allocSize]; omega))).alloc (by omega) (.cells #[.slice A1 x.items.length c1] 35))
      have HU2 := Lib.hid (hu1.below (belowOne w1 (.cells #[.slice A1 x.items.length c1] 35)))
      clear hu1 hb1 HO HB HU
      go_wp2_with (at_builtin; refine wpl_append_sto rfl _ _ rfl _ _ _ (xs.take k) rfl HO2.out w1.heap.size rfl [.slice A1 x.items.length c1] x (sto_own.2 ⟨_, rfl, HU2.out⟩) (Held.new w1 #[.slice A1 x.items.length c1] _) (fun b hb hb2 => by have := hb.2; have := hb2.1; omega) htl ?_; intro v3 w3 ho3 hg3; have HO3 := Lib.hid ho3; have HG3 := Lib.hid hg3; clear ho3 hg3)
      have HB3 := Lib.hid (HB2.out.grown HG3.out (by rw [allocSize]; omega) (fun q hq => (HO2.out.blk q hq).1))
      have hz3 := HG3.out.size
      rw [allocSize] at hz3
      have HF := Lib.hid (Sh.Own.mono (S' := fun b => w.heap.size ≤ b ∧ b < w3.heap.size) HO3.out.cap (fun b hb => by
        refine ⟨?_, hb.2⟩
        rcases hb.1 with hb | hb | hb
        · exact hb.1
        · have := hb.1; omega
        · rw [hb, allocSize]; omega))
      rw [← take_snoc HI.out] at HF
      obtain ⟨A3, c3, hf3, -, -⟩ := HF.out.row.form
      rw [List.length_take, Nat.min_eq_left (show k + 1 ≤ xs.length by omega)] at hf3
      subst hf3
      clear HO3 HG3 HO2 HU2
      go_wp2
      go_roundw
      case rel => exact ⟨k + 1, A3, c3, by omega, by go_num, rfl, HF.out, HB3.out⟩
      case measure => simp [intOf]; omega
    · have HO : Hid (stoSh.Own 35 wr (fun b => w.heap.size ≤ b ∧ b < wr.heap.size) (.slice Al k cl) xs) := Lib.hid (by have h := ho; rwa [show xs.take k = xs from List.take_of_length_le (by omega)] at h)
      clear hv ho
      go_wp2
      go_ret
      exact ⟨_, rfl, HO.out, hb⟩

end Go.Proofs.YtecdibpiojgppaaGreat

/- What some places keep, loosely: the row is owned, what each keeps lies in blocks of some set. The model's copy of it. -/
namespace Go.Proofs.YtecdibpiojgppaaGreat
open Go.RowKit

theorem lt_of_block {w w' : World} {b : Nat} (h : w'.heap[b]? = w.heap[b]?) (hb : b < w.heap.size) : b < w'.heap.size := by
  rw [Array.getElem?_eq_getElem hb] at h
  exact (Array.getElem?_eq_some_iff.1 h).1
theorem IntsIn.keep2 {w w' : World} {S S' : Nat → Prop} {v : Value} {xs : List Int} (h : IntsIn w S v xs) (hk : ∀ b, S b → b < w.heap.size → w'.heap[b]? = w.heap[b]?) (hS : ∀ b, b < w.heap.size → S b → S' b) : IntsIn w' S' v xs := by
  obtain ⟨A, c, hv, h1, h2, hr⟩ := h
  refine ⟨A, c, hv, h1, h2, fun hn => ?_⟩
  obtain ⟨b, off, hA, hb, hSb, hc⟩ := hr hn
  exact ⟨b, off, hA, lt_of_block (hk b hSb hb) hb, hS b hb hSb, fun j hj => (World.cell?_of_block (hk b hSb hb)).trans (hc j hj)⟩
theorem ItemsIn.keep2 {w w' : World} {S S' : Nat → Prop} {v : Value} {its : List Item} (h : ItemsIn w S v its) (hk : ∀ b, S b → b < w.heap.size → w'.heap[b]? = w.heap[b]?) (hS : ∀ b, b < w.heap.size → S b → S' b) : ItemsIn w' S' v its := by
  obtain ⟨A, c, hv, h1, h2, hr⟩ := h
  refine ⟨A, c, hv, h1, h2, fun hn => ?_⟩
  obtain ⟨b, off, hA, hb, hSb, hc⟩ := hr hn
  refine ⟨b, off, hA, lt_of_block (hk b hSb hb) hb, hS b hb hSb, fun j it hit => ?_⟩
  obtain ⟨hks, c1, u, c2, hu⟩ := hc j it hit
  exact ⟨hks, (World.cell?_of_block (hk b hSb hb)).trans c1, u, (World.cell?_of_block (hk b hSb hb)).trans c2, hu.keep2 hk hS⟩
theorem ItemsIn.nil (w : World) (S : Nat → Prop) : ItemsIn w S (.slice none 0 0) [] := ⟨none, 0, rfl, Nat.zero_le _, Nat.zero_le _, fun h => absurd h (by simp)⟩
/-- What a place keeps, in blocks of some set; no two parts need lie apart. -/
def lstoSh : Sh Sto where
  wd := stoSh.wd
  zc := stoSh.zc
  z := stoSh.z
  base := stoSh.base
  rel := stoSh.rel
  own w S cs x := ∃ u, cs = [u] ∧ ItemsIn w S u x.items
  wt := stoSh.wt
  cnt := stoSh.cnt
  mkd := stoSh.mkd
  zlen := stoSh.zlen
  rlen h := stoSh.rlen h
  rone h := stoSh.rone h
  rkeep h k := stoSh.rkeep h k
  rmore h k := stoSh.rmore h k
  omono := by rintro w S S' cs x ⟨u, rfl, h⟩ hS; exact ⟨u, rfl, h.keep2 (fun _ _ _ => rfl) fun b _ hb => hS b hb⟩
  okeep := by rintro w w' S cs x ⟨u, rfl, h⟩ hk; exact ⟨u, rfl, h.keep2 hk fun _ _ h => h⟩
  orel := by rintro w S cs x ⟨u, rfl, h⟩; exact sto_rel.2 ⟨u, rfl, items_row.2 h.items⟩
  ozero w S := ⟨_, rfl, ItemsIn.nil w S⟩
  ocap := by rintro w S cs x ⟨u, rfl, h⟩; exact ⟨u, rfl, h.keep2 (fun _ _ _ => rfl) fun b hb h => ⟨h, hb⟩⟩
  cntLe := stoSh.cntLe
theorem lsto_own {w : World} {S : Nat → Prop} {cs : List Value} {x : Sto} : lstoSh.own w S cs x ↔ ∃ u, cs = [u] ∧ ItemsIn w S u x.items := Iff.rfl
theorem lsto_row {w : World} {B : Nat} {v : Value} {xs : List Sto} : lstoSh.Row w B v xs ↔ stoSh.Row w B v xs := Iff.rfl
theorem infoLsto : (Tryz.prog.info? 35).map (fun i => (i.zero, i.size, i.bytes)) = some (some (.agg #[.slice none 0 0]), lstoSh.wd, 24) := by kernel_rfl

/-- One thing more in a row, for the walk. -/
theorem wpl_append_any {α : Type} (Q0 : Sh α) (t e : TypeId) (z : Value) (bytes : Nat) (ht : Tryz.prog.underlying t = some (.slice e)) (hinfo : (Tryz.prog.info? e).map (fun i => (i.zero, i.size, i.bytes)) = some (some z, Q0.wd, bytes)) (hzs : z.cells.size = Q0.wd) (hsz : 0 < Q0.wd) (hbl : bytes ≤ 65536)
    {w : World} {ops : Array Oper} {rest : List Oper} {o : Oper} {a : Act} {Q : Exit → Act → World → Prop} (hgd : o.guard = none) (s x : Operand)
    (ho : o.op = .call { callee := .builtin .append, args := #[s, x], argTypes := #[t, t] }) (S S' : Nat → Prop) (v : Value) (xs : List α) (hs : a.eval s = v) (hv : Q0.Own e w S v xs)
    (B : Nat) (hx : a.eval x = .slice (some ⟨B, 0, none⟩) 1 1) (cs : List Value) (y : α) (hy : Q0.own w S' cs y) (hsrc : Held w B cs) (hdis : ∀ b, S b → ¬ S' b) (hl : xs.length ≤ 1048576)
    (h : ∀ v' w', Q0.Own e w' (fun b => S b ∨ S' b ∨ b = w.heap.size) v' (xs ++ [y]) → w.grownBy w' v.ownBlock → (v'.ownBlock = v.ownBlock ∨ v'.ownBlock = some w.heap.size) → wpList Tryz.prog ops Q rest (a.put o.dst v') w') : wpList Tryz.prog ops Q (o :: rest) a w := by
  refine wpList_plain hgd fun K hK => ?_
  obtain ⟨i, hi, hz, hsi, hb⟩ := info_parts hinfo
  obtain ⟨v', w', hr, h2, h3, h4⟩ := Sh.append_one (P := Tryz.prog) (A := Q0) i z bytes ht hi hz hsi hb hzs hsz hv B cs y hy hsrc hdis o.type hl hbl
  unfold Oper.wp execOp
  simp only [ho, resolve, invoke, builtin, Sem.run_bind, Sem.run_pure, Result.andThen_ok, List.map_toArray, List.map_cons, List.map_nil, hs, hx, hr]
  exact hK _ _ (h v' w' h2 h3 h4)

set_option maxRecDepth 100000 in
set_option maxHeartbeats 2000000 in
theorem l4Copy_any (w : World) (v : Value) (xs : List Sto) (hv : stoSh.Row w w.heap.size v xs) (hl : xs.length ≤ 1000000) (hsh : ∀ x ∈ xs, x.items.length ≤ 1000000 ∧ Short x.items x.items.length) :
    Calls Tryz.prog 43 #[v] w (CopiedSl lstoSh 35 xs w) := by
  obtain ⟨A, c, rfl, hc2, hc1⟩ := hv.form
  unfold maxLen at hc2
  have HM := Lib.hid (show lstoSh.Own 35 (w.alloc (.cells #[] 35)) (fun b => b = w.heap.size) (.slice (some ⟨w.heap.size, 0, none⟩) 0 0) [] from Sh.Own.lit0 lstoSh 35 w)
  have HW := Lib.hid (belowOne w (.cells #[] 35))
  go_enter Tryz.func43, Tryz.ntmps43
  go_wp2
  go_loopw [3, 4] (fun l i wr => ∃ (k : Nat) (Al : Option Addr) (cl : Nat), k ≤ xs.length ∧ i = .int .i64 k ∧ l = .slice Al k cl ∧ lstoSh.Own 35 wr (fun b => w.heap.size ≤ b ∧ b < wr.heap.size) (.slice Al k cl) (xs.take k) ∧ Below w.heap.size w wr) (fun _ i _ => xs.length - (intOf i).toNat)
  case atStart => exact ⟨0, _, _, Nat.zero_le _, rfl, rfl, HM.out.mono fun b hb => ⟨by omega, by simp; omega⟩, HW.out⟩
  case round =>
    clear HM HW
    obtain ⟨k, Al, cl, hk, rfl, rfl, ho, hb⟩ := hrel
    by_cases hlt : k < xs.length
    · obtain ⟨b, off, c', x, u, e1, hx, hB, cu, hu⟩ := stos_at (hv.below hb) (k := k) hlt
      obtain ⟨A', c'', hu', -, -⟩ := hu.form
      subst hu'
      injection e1 with e1a e1b e1c
      subst e1a
      obtain ⟨hxl, hxs⟩ := hsh x (List.mem_of_getElem? hx)
      have htl : (xs.take k).length ≤ 1048576 := by rw [List.length_take]; omega
      have HO := Lib.hid ho
      have HB := Lib.hid hb
      have HU := Lib.hid (items_row.1 (hu.more (B' := wr.heap.size) hb.size))
      have HI := Lib.hid hx
      have HSh := Lib.hid hxs
      have hzr := hb.size
      clear e1b e1c hv hu hx hb ho hsh hxs
      go_wp2_with fail
      refine (l1Copy_any _ _ x.items HU.out HSh.out (by omega)).mono ?_
      rintro e w1 ⟨u1, rfl, hu1, hb1⟩
      obtain ⟨A1, n1, c1, hf1⟩ := ownSlice hu1
      subst hf1
      have hz1 := hb1.size
      have HO2 := Lib.hid ((HO.out.below hb1).below (belowOne w1 (.cells #[.slice A1 n1 c1] 35)))
      have HB2 := Lib.hid ((HB.out.trans (hb1.mono HB.out.size)).alloc (by omega) (.cells #[.slice A1 n1 c1] 35))
      have HU2 := Lib.hid ((hu1.toIn (S' := fun b => wr.heap.size ≤ b) (fun _ h => h) (fun _ h => h)).keep2 (w' := w1.alloc (.cells #[.slice A1 n1 c1] 35)) (S' := fun b => wr.heap.size ≤ b ∧ b < w1.heap.size) (fun b _ hlt => (belowOne w1 _).block b hlt) (fun b hlt h => ⟨h, hlt⟩))
      clear hu1 hb1 HO HB HU
      go_wp2_with (at_builtin; refine wpl_append_any lstoSh 23 35 _ 24 Tryz.underlying23 infoLsto rfl (by decide) (by omega) rfl _ _ rfl _ _ _ (xs.take k) rfl HO2.out w1.heap.size rfl [.slice A1 n1 c1] x (lsto_own.2 ⟨_, rfl, HU2.out⟩) (Held.new w1 #[.slice A1 n1 c1] _) (fun b hb hb2 => by have := hb.2; have := hb2.1; omega) htl ?_; intro v3 w3 ho3 hg3 _; have HO3 := Lib.hid ho3; have HG3 := Lib.hid hg3; clear ho3 hg3)
      have HB3 := Lib.hid (HB2.out.grown HG3.out (by rw [allocSize]; omega) (fun q hq => (HO2.out.blk q hq).1))
      have hz3 := HG3.out.size
      rw [allocSize] at hz3
      have HF := Lib.hid (Sh.Own.mono (S' := fun b => w.heap.size ≤ b ∧ b < w3.heap.size) HO3.out.cap (fun b hb => by
        refine ⟨?_, hb.2⟩
        rcases hb.1 with hb | hb | hb
        · exact hb.1
        · have := hb.1; omega
        · rw [hb, allocSize]; omega))
      rw [← take_snoc HI.out] at HF
      obtain ⟨A3, c3, hf3, -, -⟩ := HF.out.row.form
      rw [List.length_take, Nat.min_eq_left (show k + 1 ≤ xs.length by omega)] at hf3
      subst hf3
      clear HO3 HG3 HO2 HU2
      go_wp2
      go_roundw
      case rel => exact ⟨k + 1, A3, c3, by omega, by go_num, rfl, HF.out, HB3.out⟩
      case measure => simp [intOf]; omega
    · have HO : Hid (lstoSh.Own 35 wr (fun b => w.heap.size ≤ b ∧ b < wr.heap.size) (.slice Al k cl) xs) := Lib.hid (by have h := ho; rwa [show xs.take k = xs from List.take_of_length_le (by omega)] at h)
      clear hv ho
      go_wp2
      go_ret
      exact ⟨_, rfl, HO.out, hb⟩

end Go.Proofs.YtecdibpiojgppaaGreat
