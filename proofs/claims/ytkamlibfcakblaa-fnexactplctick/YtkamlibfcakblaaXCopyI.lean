/- Texts that follow each other, merged: CopyI, AppAny, RegLast. -/
import Derived.Test.YtkamlibfcakblaaXWrts
import Derived.Test.YtkamlibfcakblaaXExItems
import Derived.Test.YtkamlibfcakblaaXRegTake
import Derived.Test.YtkamlibfcakblaaXHStoItem
import Derived.Deep.RegionHeld3
import Derived.Test.YtkamlibfcakblaaXShOwn
import Derived.Test.YtkamlibfcakblaaXHStr

/- The program's copy of things. -/
namespace Go.Proofs.Ytkamlibfcakblaa
open Go.RowKit

theorem OwnInts.sh {w : World} {lo : Nat} {v : Value} {xs : List Int} (h : OwnInts w lo v xs) : Sh.int.Own 3 w (fun b => lo ≤ b ∧ b < w.heap.size) v xs := by
  have hf : xs.map (Value.int .i64) = flat (fun j => [.int .i64 (nth xs j)]) xs.length := by
    refine flat_ext (d := 1) (fun _ _ => rfl) (by simp) fun j i hj hi => ?_
    have hi0 : i = 0 := by omega
    subst hi0
    simp only [Nat.mul_one, Nat.add_zero, nth_map hj]
    rfl
  refine ⟨fun j => [.int .i64 (nth xs j)], fun _ _ => False, ?_, fun g hg => h.lt g hg, fun j x hx => ⟨?_, fun _ h => h.elim⟩, fun _ _ _ _ _ h => h.elim⟩
  · refine ⟨?_, ?_⟩
    · rw [← hf]; simp [Sh.int]
    · rcases h.2 with hn | ⟨g, cap, cur, hv, hb, hg, h1, h2, h3, h4⟩
      · exact .inl hn
      · exact .inr ⟨g, cap, cur, hv, Nat.zero_le _, hg, h1, h2, h3, by rw [← hf]; exact h4⟩
  · show [Value.int .i64 (nth xs j)] = [Value.int .i64 x]
    obtain ⟨hj, e⟩ := List.getElem?_eq_some_iff.1 hx
    rw [nth_get hj, e]
theorem Sh.Own.blk {α : Type} {A : Sh α} {e : TypeId} {w : World} {S : Nat → Prop} {v : Value} {xs : List α} (h : A.Own e w S v xs) : ∀ g, v.ownBlock = some g → S g := by
  obtain ⟨_, _, _, h2, _⟩ := h
  exact h2
theorem clone_sh (w : World) (v : Value) (xs : List Int) (hv : Ints w w.heap.size v xs) (hl : xs.length ≤ 1048576) :
    Calls Try.prog 92 #[v] w (CopiedSl Sh.int 3 xs w) :=
  (clone_any w v xs hv hl).mono fun _ _ ⟨u, he, ho, hb⟩ => ⟨u, he, ho.sh, hb⟩
/-- append of one thing that lies in a block of its own. -/
theorem app_its {o : Oper} {a : Act} {w : World} {K : Act → World → Prop} {Q : Exit → Act → World → Prop} (s x : Operand)
    (ho : o.op = .call { callee := .builtin .append, args := #[s, x], argTypes := #[109, 109] }) (S S' : Nat → Prop) (v : Value) (xs : List Item) (hs : a.eval s = v) (hv : itSh.Own 104 w S v xs)
    (B : Nat) (hx : a.eval x = .slice (some ⟨B, 0, none⟩) 1 1) (cs : List Value) (y : Item) (hy : itSh.own w S' cs y) (hsrc : Held w B cs) (hdis : ∀ b, S b → ¬ S' b) (hl : xs.length ≤ 1048576)
    (h : ∀ v' w', itSh.Own 104 w' (fun b => S b ∨ S' b ∨ b = w.heap.size) v' (xs ++ [y]) → w.grownBy w' v.ownBlock → K (a.put o.dst v') w') :
    Oper.wp Try.prog o a w K Q := by
  obtain ⟨i, hi, hz, hsz, hb⟩ := infoItemParts
  obtain ⟨v', w', hr, h2, h3, h4⟩ := Sh.append_one (P := Try.prog) (A := itSh) i _ 40 Try.underlying109 hi hz hsz hb rfl (by decide) hv B cs y hy hsrc hdis o.type hl (by omega)
  unfold Oper.wp execOp
  simp only [ho, resolve, invoke, builtin, Sem.run_bind, Sem.run_pure, Result.andThen_ok, List.map_toArray, List.map_cons, List.map_nil, hs, hx, hr]
  exact h v' w' h2 h3
theorem allocSize (w : World) (x : Obj) : (w.alloc x).heap.size = w.heap.size + 1 := by simp
theorem made0Its (n : Nat) (hbytes : 40 * n ≤ 281474976710656) (w : World) :
    (Instr.makeSlice 109 (.int .i64 0) (.int .i64 (n : Int))).run Try.prog w = .ok (.slice (some ⟨w.heap.size, 0, none⟩) 0 n) (w.alloc (.cells (madeCells #[.string ByteArray.empty, .slice none 0 0] (n * 2)) 104)) := by
  obtain ⟨i, hi, hz, hs, hb⟩ := infoItemParts
  have hb' : (i.bytes : Int) * (n : Int) ≤ 281474976710656 := by
    have h : ((i.bytes * n : Nat) : Int) ≤ 281474976710656 := by rw [hb]; omega
    rwa [Int.natCast_mul] at h
  have hr := run_make (P := Try.prog) w 109 104 i _ Try.underlying109 hi hz .i64 .i64 0 n (by omega) (by omega) hb' (by omega)
  simp only [Int.toNat_natCast, hs] at hr
  exact hr

set_option maxRecDepth 100000 in
set_option maxHeartbeats 2000000 in
theorem copyItems_any (w : World) (v : Value) (its : List Item) (hv : Items w w.heap.size v its) (hl : its.length ≤ 1048576) (hsh : Short its its.length) :
    Calls Try.prog 89 #[v] w (CopiedSl itSh 104 its w) := by
  obtain ⟨A, c, rfl, hc2, hc1⟩ := hv.form
  unfold maxLen at hc2
  have hmk := fun W => made0Its its.length (by omega) W
  have HM := Lib.hid (Sh.Own.made0 itSh 104 w its.length (by unfold maxLen; omega))
  have HW := Lib.hid (belowOne w (.cells (madeCells #[.string ByteArray.empty, .slice none 0 0] (its.length * 2)) 104))
  go_enter Try.func89, Try.ntmps89
  go_wp2
  clear hmk
  go_loopw [3, 11] (fun l i wr => ∃ (k : Nat) (Al : Option Addr) (cl : Nat), k ≤ its.length ∧ i = .int .i64 k ∧ l = .slice Al k cl ∧ itSh.Own 104 wr (fun b => w.heap.size ≤ b ∧ b < wr.heap.size) (.slice Al k cl) (its.take k) ∧ Below w.heap.size w wr) (fun _ i _ => its.length - (intOf i).toNat)
  case atStart => exact ⟨0, _, _, Nat.zero_le _, rfl, rfl, HM.out.mono fun b hb => ⟨by omega, by simp; omega⟩, HW.out⟩
  case round =>
    clear HM HW
    obtain ⟨k, Al, cl, hk, rfl, rfl, ho, hb⟩ := hrel
    by_cases hlt : k < its.length
    · obtain ⟨b, off, c', it, u, e1, hit, hB, hs, ck, cu, hu⟩ := (hv.below hb).at_ (k := k) hlt
      obtain ⟨A', c'', hu', hu2, hu3⟩ := hu.form
      subst hu'
      injection e1 with e1a e1b e1c
      subst e1a
      have hvl : it.val.length ≤ 1048576 := (hsh k it hlt hit).2
      have htl : (its.take k).length ≤ 1048576 := by rw [List.length_take]; omega
      have HX := Lib.hid (Held.new wr #[.string it.key, .slice A' it.val.length c''] 104)
      have HB := Lib.hid (hb.alloc hb.size (.cells #[.string it.key, .slice A' it.val.length c''] 104))
      have HO := Lib.hid (ho.below (belowOne wr (.cells #[.string it.key, .slice A' it.val.length c''] 104)))
      have HU := Lib.hid (show Ints ((wr.alloc (.cells #[.string it.key, .slice A' it.val.length c''] 104)).drew) w.heap.size _ it.val from hu.alloc hb.size (.cells #[.string it.key, .slice A' it.val.length c''] 104))
      have HI := Lib.hid hit
      have hzr := hb.size
      clear e1b e1c hv hu hit hb ho hsh
      have k0 := And.intro (HX.out.of 0 _ rfl) (HX.out.of 1 _ rfl)
      go_wp2
      refine wp_region_held_drew (S := (fun w' => w'.cell? ⟨wr.heap.size, 0, none⟩ = some (.string it.key) ∧ w'.cell? ⟨wr.heap.size, 1, none⟩ = some (.slice A' it.val.length c''))) (by kernel_rfl) ?hSr (fun hHeldr => ?str)
      case hSr => (first | (dsimp only; (first | with_reducible exact k3 | with_reducible exact k2 | with_reducible exact k1 | exact k0)) | (first | with_reducible exact k3 | with_reducible exact k2 | with_reducible exact k1 | exact k0))
      refine take_first 0 15 (v := ?vr_1) rfl rfl (by kernel_rfl) (by kernel_rfl) (by kernel_rfl) (fun _ _ _ h => h) (by rfl) ?yr_1 (by assumption) ?rr_1
      case yr_1 => (intro w hSw; (try dsimp only at hSw); go_simp; (try with_reducible rfl))
      simp only [Act.put, List.setIfInBounds_toArray, List.set_cons_zero, List.set_cons_succ]
      refine take_first 1 16 (v := ?vr_2) rfl rfl (by kernel_rfl) (by kernel_rfl) (by kernel_rfl) (fun _ _ _ h => h) (by rfl) ?yr_2 (by assumption) ?rr_2
      case yr_2 => (intro w hSw; (try dsimp only at hSw); go_simp; (try with_reducible rfl))
      simp only [Act.put, List.setIfInBounds_toArray, List.set_cons_zero, List.set_cons_succ]
      refine take_first 2 17 (v := ?vr_3) rfl rfl (by kernel_rfl) (by kernel_rfl) (by kernel_rfl) (fun _ _ _ h => h) (by rfl) ?yr_3 (by assumption) ?rr_3
      case yr_3 => (intro w hSw; (try dsimp only at hSw); go_simp; (try with_reducible rfl))
      simp only [Act.put, List.setIfInBounds_toArray, List.set_cons_zero, List.set_cons_succ]
      refine take_first 3 18 (v := ?vr_4) rfl rfl (by kernel_rfl) (by kernel_rfl) (by kernel_rfl) (fun _ _ _ h => h) (by rfl) ?yr_4 (by assumption) ?rr_4
      case yr_4 => (intro w hSw; (try dsimp only at hSw); go_simp; (try with_reducible rfl))
      simp only [Act.put, List.setIfInBounds_toArray, List.set_cons_zero, List.set_cons_succ]
      refine take_first 4 19 (v := ?vr_5) rfl rfl (by kernel_rfl) (by kernel_rfl) (by kernel_rfl) (fun _ _ _ h => h) (by rfl) ?yr_5 (by assumption) ?rr_5
      case yr_5 => (intro w hSw; (try dsimp only at hSw); go_simp; (try with_reducible rfl))
      simp only [Act.put, List.setIfInBounds_toArray, List.set_cons_zero, List.set_cons_succ]
      refine wpAnyH_ready (rs := [5]) (by kernel_rfl) (by simp) ?_
      refine AllReadyH.cons (o := _) rfl (fun Kr_6 hKr_6 => ?cr_6) ?mr_6
      case mr_6 => exact AllReadyH.nil
      go_simp
      refine (clone_sh _ _ it.val (HU.out.more (by show _ ≤ (World.alloc _ _).heap.size; simp; omega)) hvl).mono ?_; rintro e w1 ⟨u1, rfl, hu1, hb1⟩; obtain ⟨A1, c1, hf1, -, -⟩ := hu1.row.form; subst hf1; have HX1 := Lib.hid (HX.out.onward hb1 rfl); have k1 := And.intro (HX1.out.of 0 _ rfl) (HX1.out.of 1 _ rfl); have HX2 := Lib.hid (HX1.out.after (.cells #[.string it.key, .slice A1 it.val.length c1] 104)); have k2 := And.intro (HX2.out.of 0 _ rfl) (HX2.out.of 1 _ rfl); have HO2 := Lib.hid ((Sh.Own.below (w := (wr.alloc (.cells #[.string it.key, .slice A' it.val.length c''] 104)).drew) HO.out hb1).below (belowOne w1 (.cells #[.string it.key, .slice A1 it.val.length c1] 104))); have hz1 : wr.heap.size < w1.heap.size := HX1.out.1; have HB2 := Lib.hid ((HB.out.drew.trans (hb1.mono (by show _ ≤ (World.alloc _ _).heap.size; simp; omega))).alloc (by omega) (.cells #[.string it.key, .slice A1 it.val.length c1] 104)); have HU2 := Lib.hid (Sh.Own.mono (S' := fun b => wr.heap.size < b ∧ b < w1.heap.size) (hu1.below (belowOne w1 (.cells #[.string it.key, .slice A1 it.val.length c1] 104))) (fun b hb => ⟨by have h := hb.1; have h2 : (wr.alloc (.cells #[.string it.key, .slice A' it.val.length c''] 104)).drew.heap.size = wr.heap.size + 1 := (by show (World.alloc _ _).heap.size = _; simp); omega, hb.2⟩)); clear hu1 hb1
      go_wp2_with fail
      refine hKr_6.out _ _ ?kr_6 (fun hHeldr_6 => ?dr_6)
      case kr_6 => (first | (dsimp only; (first | with_reducible exact k3 | with_reducible exact k2 | with_reducible exact k1 | exact k0)) | (first | with_reducible exact k3 | with_reducible exact k2 | with_reducible exact k1 | exact k0))
      clear hKr_6 Kr_6
      refine take_first 6 21 (v := ?vr_7) rfl rfl (by kernel_rfl) (by kernel_rfl) (by kernel_rfl) (fun _ _ _ h => h) (by rfl) ?yr_7 (by assumption) ?rr_7
      case yr_7 => (intro w hSw; (try dsimp only at hSw); go_simp; (try with_reducible rfl))
      simp only [Act.put, List.setIfInBounds_toArray, List.set_cons_zero, List.set_cons_succ]
      refine wpAnyH_ready (rs := [7]) (by kernel_rfl) (by simp) ?_
      refine AllReadyH.cons (o := _) rfl (fun Kr_8 hKr_8 => ?cr_8) ?mr_8
      case mr_8 => exact AllReadyH.nil
      go_simp
      skip
      go_wp2_with fail
      refine hKr_8.out _ _ ?kr_8 (fun hHeldr_8 => ?dr_8)
      case kr_8 => (first | (dsimp only; (first | with_reducible exact k3 | with_reducible exact k2 | with_reducible exact k1 | exact k0)) | (first | with_reducible exact k3 | with_reducible exact k2 | with_reducible exact k1 | exact k0))
      clear hKr_8 Kr_8
      refine wpAnyH_ready (rs := [8]) (by kernel_rfl) (by simp) ?_
      refine AllReadyH.cons (o := _) rfl (fun Kr_9 hKr_9 => ?cr_9) ?mr_9
      case mr_9 => exact AllReadyH.nil
      rw [if_pos (by rfl)]
      refine app_its (.tmp 15) (.tmp 22) rfl _ _ _ (its.take k) rfl HO2.out w1.heap.size rfl [.string it.key, .slice A1 it.val.length c1] it (it_own.2 ⟨_, rfl, hs, HU2.out⟩) (Held.new w1 _ _) (fun b hb hb2 => by have := hb.2; have := hb2.1; omega) htl ?_; intro v3 w3 ho3 hg3; obtain ⟨A3, c3, hf3, -, -⟩ := ho3.row.form; subst hf3; have HX3 := Lib.hid (HX2.out.outs (Outs.of_grown (S := fun b => w.heap.size ≤ b ∧ b < wr.heap.size) hg3 (HO2.out.blk)) (fun h => by have := h.2; omega)); have k3 := And.intro (HX3.out.of 0 _ rfl) (HX3.out.of 1 _ rfl); have HO3 := Lib.hid ho3; have HG3 := Lib.hid hg3; clear ho3 hg3
      refine hKr_9.out _ _ ?kr_9 (fun hHeldr_9 => ?dr_9)
      case kr_9 => (first | (dsimp only; (first | with_reducible exact k3 | with_reducible exact k2 | with_reducible exact k1 | exact k0)) | (first | with_reducible exact k3 | with_reducible exact k2 | with_reducible exact k1 | exact k0))
      clear hKr_9 Kr_9
      refine take_first 9 3 (v := ?vr_10) rfl rfl (by kernel_rfl) (by kernel_rfl) (by kernel_rfl) (fun _ _ _ h => h) (by rfl) ?yr_10 (by assumption) ?rr_10
      case yr_10 => (intro w hSw; (try dsimp only at hSw); go_simp; (try with_reducible rfl))
      simp only [Act.put, List.setIfInBounds_toArray]
      refine wpAnyH_done (by kernel_rfl) ?er _
      have HB3 := Lib.hid (HB2.out.grown HG3.out (by simp; omega) (fun q hq => (HO2.out.blk q hq).1))
      have hz3 := HG3.out.size
      rw [allocSize] at hz3
      have HF := Lib.hid (Sh.Own.mono (S' := fun b => w.heap.size ≤ b ∧ b < w3.heap.size) HO3.out.cap (fun b hb => by
        refine ⟨?_, hb.2⟩
        rcases hb.1 with hb | hb | hb
        · exact hb.1
        · have := hb.1; omega
        · rw [hb, allocSize]; omega))
      have htk := take_snoc HI.out
      rw [List.length_append, List.length_take, Nat.min_eq_left hk] at HF
      rw [← htk] at HF
      clear htk HO3 HG3 HX3 HO2 HX2 HU2 HX1 HX HO HU k0 k1 k2 k3
      go_wp2
      go_roundw
      case rel => exact ⟨k + 1, A3, c3, by omega, by go_num, rfl, HF.out, HB3.out⟩
      case measure => simp [intOf]; omega
    · have hks : k = its.length := by omega
      have HO : Hid (itSh.Own 104 wr (fun b => w.heap.size ≤ b ∧ b < wr.heap.size) (.slice Al k cl) its) := by
        exact Lib.hid (by have h := ho; rwa [show its.take k = its from List.take_of_length_le (by omega)] at h)
      clear hks hv ho
      go_wp2
      go_ret
      exact ⟨_, rfl, HO.out, hb⟩

end Go.Proofs.Ytkamlibfcakblaa

/- append of one element of any shape, in a drawn region or in a walk. -/
namespace Go.Proofs.Ytkamlibfcakblaa
open Go.RowKit

theorem app_one {α : Type} (Q0 : Sh α) (t e : TypeId) (z : Value) (bytes : Nat) (ht : Try.prog.underlying t = some (.slice e)) (hinfo : (Try.prog.info? e).map (fun i => (i.zero, i.size, i.bytes)) = some (some z, Q0.wd, bytes)) (hzs : z.cells.size = Q0.wd) (hsz : 0 < Q0.wd) (hbl : bytes ≤ 65536)
    {o : Oper} {a : Act} {w : World} {K : Act → World → Prop} {Q : Exit → Act → World → Prop} (s x : Operand)
    (ho : o.op = .call { callee := .builtin .append, args := #[s, x], argTypes := #[t, t] }) (S S' : Nat → Prop) (v : Value) (xs : List α) (hs : a.eval s = v) (hv : Q0.Own e w S v xs)
    (B : Nat) (hx : a.eval x = .slice (some ⟨B, 0, none⟩) 1 1) (cs : List Value) (y : α) (hy : Q0.own w S' cs y) (hsrc : Held w B cs) (hdis : ∀ b, S b → ¬ S' b) (hl : xs.length ≤ 1048576)
    (h : ∀ v' w', Q0.Own e w' (fun b => S b ∨ S' b ∨ b = w.heap.size) v' (xs ++ [y]) → w.grownBy w' v.ownBlock → (v'.ownBlock = v.ownBlock ∨ v'.ownBlock = some w.heap.size) → K (a.put o.dst v') w') :
    Oper.wp Try.prog o a w K Q := by
  obtain ⟨i, hi, hz, hsi, hb⟩ := info_parts hinfo
  obtain ⟨v', w', hr, h2, h3, h4⟩ := Sh.append_one (P := Try.prog) (A := Q0) i z bytes ht hi hz hsi hb hzs hsz hv B cs y hy hsrc hdis o.type hl hbl
  unfold Oper.wp execOp
  simp only [ho, resolve, invoke, builtin, Sem.run_bind, Sem.run_pure, Result.andThen_ok, List.map_toArray, List.map_cons, List.map_nil, hs, hx, hr]
  exact h v' w' h2 h3 h4
theorem wpl_one {α : Type} (Q0 : Sh α) (t e : TypeId) (z : Value) (bytes : Nat) (ht : Try.prog.underlying t = some (.slice e)) (hinfo : (Try.prog.info? e).map (fun i => (i.zero, i.size, i.bytes)) = some (some z, Q0.wd, bytes)) (hzs : z.cells.size = Q0.wd) (hsz : 0 < Q0.wd) (hbl : bytes ≤ 65536)
    {w : World} {ops : Array Oper} {rest : List Oper} {o : Oper} {a : Act} {Q : Exit → Act → World → Prop} (hgd : o.guard = none) (s x : Operand)
    (ho : o.op = .call { callee := .builtin .append, args := #[s, x], argTypes := #[t, t] }) (S S' : Nat → Prop) (v : Value) (xs : List α) (hs : a.eval s = v) (hv : Q0.Own e w S v xs)
    (B : Nat) (hx : a.eval x = .slice (some ⟨B, 0, none⟩) 1 1) (cs : List Value) (y : α) (hy : Q0.own w S' cs y) (hsrc : Held w B cs) (hdis : ∀ b, S b → ¬ S' b) (hl : xs.length ≤ 1048576)
    (h : ∀ v' w', Q0.Own e w' (fun b => S b ∨ S' b ∨ b = w.heap.size) v' (xs ++ [y]) → w.grownBy w' v.ownBlock → (v'.ownBlock = v.ownBlock ∨ v'.ownBlock = some w.heap.size) → wpList Try.prog ops Q rest (a.put o.dst v') w') : wpList Try.prog ops Q (o :: rest) a w :=
  wpList_plain hgd fun _ hK => app_one Q0 t e z bytes ht hinfo hzs hsz hbl s x ho S S' v xs hs hv B hx cs y hy hsrc hdis hl fun v' w' h1 h2 h3 => hK _ _ (h v' w' h1 h2 h3)

end Go.Proofs.Ytkamlibfcakblaa

/- A region that draws its order and whose last operation may break what is held of the world: that operation waits for all that is taken first. Nothing of the program. -/
namespace Go.Proofs.Ytkamlibfcakblaa

section
variable {P : Program} {md : Region.Mode} {ops : Array Oper} {Q : Exit → Act → World → Prop} {S : World → Prop}

/-- Whatever order is picked: S holds behind each operation but number z. -/
def wpAnyL (P : Program) (md : Region.Mode) (ops : Array Oper) (Q : Exit → Act → World → Prop) (S : World → Prop) (z : Nat) : Nat → Array Bool → Act → World → Prop
  | 0, l, a, w => Region.ready md ops l = [] ∧ Q .normal a w
  | n + 1, l, a, w => (Region.ready md ops l = [] → Q .normal a w) ∧
    ∀ i ∈ Region.ready md ops l, wpOp P ops Q i (fun a' w' => (i ≠ z → S w') ∧ wpAnyL P md ops Q S z n (l.setIfInBounds i true) a' w') a w
theorem wpAny_of_last {z : Nat} : ∀ (n : Nat) (l : Array Bool) (a : Act) (w : World), wpAnyL P md ops Q S z n l a w → wpAny P md ops Q n l a w
  | 0, _, _, _, h => h
  | n + 1, _, _, _, h => ⟨h.1, fun i hi => wpOp_mono (fun a' w' k => wpAny_of_last n _ a' w' k.2) (h.2 i hi)⟩
/-- Operation z waits for operation i. -/
def waits (md : Region.Mode) (ops : Array Oper) (z i : Nat) : Bool := match ops[z]? with
  | some o => o.after.any fun e => e.on == i && Region.binds md e
  | none => false

theorem wpAnyL_first {z i : Nat} {oi : Oper} {v : Value} (hi : ops[i]? = some oi) (hsel : ∀ (j : Nat) (o : Oper) cs b, ops[j]? = some o → o.op ≠ .select cs b)
    (hQ : ∀ c a w, Q (.panic c) (a.put oi.dst v) w → Q (.panic c) a w) (hz : waits md ops z i = true) :
    ∀ (n : Nat) (l : Array Bool) (a : Act) (w : World),
      (∀ j oj, ops[j]? = some oj → j ≠ i → l.getD j true = false → (∀ e ∈ oj.after, Region.binds md e = true → e.on ≠ i) → oi.apart ops oj = true) →
      i ∈ Region.ready md ops l → YieldsIf P ops S oi v a → S w →
      wpAnyL P md ops Q S z n (l.setIfInBounds i true) (a.put oi.dst v) w → wpAnyL P md ops Q S z (n + 1) l a w := by
  intro n
  induction n with
  | zero =>
    intro l a w _ hr hy hS H
    refine ⟨fun h => absurd (h ▸ hr) (by simp), fun j hj => ?_⟩
    by_cases e : j = i
    · subst e; exact hy.wpOp hi hS ⟨fun _ => hS, H⟩
    · exact absurd (H.1 ▸ ready_mono hj e) (by simp)
  | succ n ih =>
    intro l a w hfree hr hy hS H
    refine ⟨fun h => absurd (h ▸ hr) (by simp), fun j hj => ?_⟩
    by_cases e : j = i
    · subst e; exact hy.wpOp hi hS ⟨fun _ => hS, H⟩
    · obtain ⟨hun, oj, hoj, hall⟩ := mem_ready.1 hj
      have hno : ∀ ed ∈ oj.after, Region.binds md ed = true → ed.on ≠ i := by
        intro ed he hb heq
        have h1 := hall ed he hb
        have h0 := (mem_ready.1 hr).1
        rw [heq] at h1
        rcases Nat.lt_or_ge i l.size with h' | h'
        · simp [h'] at h0 h1; rw [h0] at h1; cases h1
        · simp [Array.getElem?_eq_none h'] at h1
      have hjz : j ≠ z := by
        rintro rfl
        unfold waits at hz
        rw [hoj] at hz
        obtain ⟨m, hm, he⟩ := Array.any_eq_true.1 hz
        simp only [Bool.and_eq_true, beq_iff_eq] at he
        exact hno _ (Array.getElem_mem hm) he.2 he.1
      have h2 := wpOp_putIf hoj (hfree j oj hoj e hun hno) (fun cs b => hsel i oi cs b hi) (fun cs b => hsel j oj cs b hoj) hQ hy
        (wpOp_mono (K' := fun a' w' => S w' ∧ wpAnyL P md ops Q S z n ((l.setIfInBounds i true).setIfInBounds j true) a' w') (fun a' w' k => ⟨k.1 hjz, k.2⟩) (H.2 j (ready_mono hj e)))
      refine wpOp_mono (fun a' w' k => ⟨fun _ => k.2.1, ih (l.setIfInBounds j true) a' w' (fun q oq hq hqi hqu hqn => hfree q oq hq hqi ?_ hqn) (ready_mono hr (Ne.symm e)) k.1 k.2.1 ?_⟩) h2
      · by_cases ejq : j = q
        · subst ejq; exact hun
        · rw [getD_set_ne true ejq] at hqu; exact hqu
      · rw [Array.setIfInBounds_comm _ _ e]; exact k.2.2

/-- Taken first. -/
theorem take_l (i d : Nat) {z : Nat} {oi : Oper} {v : Value} {n : Nat} {l : Array Bool} {a : Act} {w : World} (hi : ops[i]? = some oi) (hd : oi.dst = some d)
    (hs : Region.noSelect ops = true) (hf : Region.free md ops l i = true) (hr : (Region.ready md ops l).contains i = true) (hz : waits md ops z i = true)
    (hQ : ∀ c a w, Q (.panic c) (a.put oi.dst v) w → Q (.panic c) a w) (hw : Region.wanted oi (yielded ops a.tmps) = true) (hy : ∀ w, S w → (execOp a.eval oi).run P w = .ok (.value v) w) (hS : S w)
    (h : wpAnyL P md ops Q S z n (l.setIfInBounds i true) (a.put (some d) v) w) : wpAnyL P md ops Q S z (n + 1) l a w :=
  wpAnyL_first hi (Region.noSelect_spec hs) hQ hz n l a w (Region.free_spec hi hf) (by simpa using hr) (.inl ⟨hw, hy⟩) hS (by rw [hd]; exact h)
/-- The one that may come up comes up. -/
theorem one_l (i : Nat) {z : Nat} {o : Oper} {n : Nat} {l : Array Bool} {a : Act} {w : World} (ho : ops[i]? = some o) (hr : Region.ready md ops l = [i])
    (h : ∀ K : Act → World → Prop, Shut (∀ a w, (i ≠ z → S w) → ((i ≠ z → S w) → wpAnyL P md ops Q S z n (l.setIfInBounds i true) a w) → K a w) → if Region.wanted o (yielded ops a.tmps) = true then Oper.wp P o a w K Q else K (a.put o.dst undef) w) :
    wpAnyL P md ops Q S z (n + 1) l a w := by
  refine ⟨fun h0 => absurd (h0 ▸ hr) (by simp), fun j hj => ?_⟩
  rw [hr] at hj
  obtain rfl : j = i := by simpa using hj
  exact wpOp_step ho fun K hK => h K fun a w hS hW => hK a w ⟨hS, hW hS⟩
theorem done_l {z : Nat} {l : Array Bool} {a : Act} {w : World} (hr : Region.ready md ops l = []) (h : Q .normal a w) : ∀ n, wpAnyL P md ops Q S z n l a w
  | 0 => ⟨hr, h⟩
  | _ + 1 => ⟨fun _ => h, by rw [hr]; simp⟩
theorem region_l {id : Nat} {a : Act} {w : World} (z : Nat) (hm : P.follows .mixedOrders = true) (hS : S w.drew)
    (h : S w.drew → wpAnyL P .any ops Q S z ops.size (Array.replicate ops.size false) a w.drew) : (Code.region id ops true).wp P Q a w :=
  wp_region_any hm (wpAny_of_last _ _ _ _ (h hS))
end

end Go.Proofs.Ytkamlibfcakblaa
