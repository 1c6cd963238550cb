/- Texts that follow each other, merged: CopyI, StoDoS. -/
import Derived.Test.YtkamlibfcakblaaXWrts
import Derived.Test.YtkamlibfcakblaaXExItems
import Derived.Test.YtkamlibfcakblaaXHStr
import Derived.Deep.RegionHeld3

/- The program's copy of things. -/
namespace Go.Proofs.Ytkamlibfcakblaa
open Go.RowKit

theorem OwnInts.sh {w : World} {lo : Nat} {v : Value} {xs : List Int} (h : OwnInts w lo v xs) : Sh.int.Own 3 w (fun b => lo ≤ b ∧ b < w.heap.size) v xs := by
  have hf : xs.map (Value.int .i64) = flat (fun j => [.int .i64 (nth xs j)]) xs.length := by
    refine flat_ext (d := 1) (fun _ _ => rfl) (by simp) fun j i hj hi => ?_
    have hi0 : i = 0 := by omega
    subst hi0
    simp only [Nat.mul_one, Nat.add_zero, nth_map hj]
    rfl
  refine ⟨fun j => [.int .i64 (nth xs j)], fun _ _ => False, ?_, fun g hg => h.lt g hg, fun j x hx => ⟨?_, fun _ h => h.elim⟩, fun _ _ _ _ _ h => h.elim⟩
  · refine ⟨?_, ?_⟩
    · rw [← hf]; simp [Sh.int]
    · rcases h.2 with hn | ⟨g, cap, cur, hv, hb, hg, h1, h2, h3, h4⟩
      · exact .inl hn
      · exact .inr ⟨g, cap, cur, hv, Nat.zero_le _, hg, h1, h2, h3, by rw [← hf]; exact h4⟩
  · show [Value.int .i64 (nth xs j)] = [Value.int .i64 x]
    obtain ⟨hj, e⟩ := List.getElem?_eq_some_iff.1 hx
    rw [nth_get hj, e]
theorem Sh.Own.blk {α : Type} {A : Sh α} {e : TypeId} {w : World} {S : Nat → Prop} {v : Value} {xs : List α} (h : A.Own e w S v xs) : ∀ g, v.ownBlock = some g → S g := by
  obtain ⟨_, _, _, h2, _⟩ := h
  exact h2
theorem clone_sh (w : World) (v : Value) (xs : List Int) (hv : Ints w w.heap.size v xs) (hl : xs.length ≤ 1048576) :
    Calls Try.prog 92 #[v] w (CopiedSl Sh.int 3 xs w) :=
  (clone_any w v xs hv hl).mono fun _ _ ⟨u, he, ho, hb⟩ => ⟨u, he, ho.sh, hb⟩
/-- append of one thing that lies in a block of its own. -/
theorem app_its {o : Oper} {a : Act} {w : World} {K : Act → World → Prop} {Q : Exit → Act → World → Prop} (s x : Operand)
    (ho : o.op = .call { callee := .builtin .append, args := #[s, x], argTypes := #[109, 109] }) (S S' : Nat → Prop) (v : Value) (xs : List Item) (hs : a.eval s = v) (hv : itSh.Own 104 w S v xs)
    (B : Nat) (hx : a.eval x = .slice (some ⟨B, 0, none⟩) 1 1) (cs : List Value) (y : Item) (hy : itSh.own w S' cs y) (hsrc : Held w B cs) (hdis : ∀ b, S b → ¬ S' b) (hl : xs.length ≤ 1048576)
    (h : ∀ v' w', itSh.Own 104 w' (fun b => S b ∨ S' b ∨ b = w.heap.size) v' (xs ++ [y]) → w.grownBy w' v.ownBlock → K (a.put o.dst v') w') :
    Oper.wp Try.prog o a w K Q := by
  obtain ⟨i, hi, hz, hsz, hb⟩ := infoItemParts
  obtain ⟨v', w', hr, h2, h3, h4⟩ := Sh.append_one (P := Try.prog) (A := itSh) i _ 40 Try.underlying109 hi hz hsz hb rfl (by decide) hv B cs y hy hsrc hdis o.type hl (by omega)
  unfold Oper.wp execOp
  simp only [ho, resolve, invoke, builtin, Sem.run_bind, Sem.run_pure, Result.andThen_ok, List.map_toArray, List.map_cons, List.map_nil, hs, hx, hr]
  exact h v' w' h2 h3
theorem allocSize (w : World) (x : Obj) : (w.alloc x).heap.size = w.heap.size + 1 := by simp
theorem made0Its (n : Nat) (hbytes : 40 * n ≤ 281474976710656) (w : World) :
    (Instr.makeSlice 109 (.int .i64 0) (.int .i64 (n : Int))).run Try.prog w = .ok (.slice (some ⟨w.heap.size, 0, none⟩) 0 n) (w.alloc (.cells (madeCells #[.string ByteArray.empty, .slice none 0 0] (n * 2)) 104)) := by
  obtain ⟨i, hi, hz, hs, hb⟩ := infoItemParts
  have hb' : (i.bytes : Int) * (n : Int) ≤ 281474976710656 := by
    have h : ((i.bytes * n : Nat) : Int) ≤ 281474976710656 := by rw [hb]; omega
    rwa [Int.natCast_mul] at h
  have hr := run_make (P := Try.prog) w 109 104 i _ Try.underlying109 hi hz .i64 .i64 0 n (by omega) (by omega) hb' (by omega)
  simp only [Int.toNat_natCast, hs] at hr
  exact hr

set_option maxRecDepth 100000 in
set_option maxHeartbeats 2000000 in
theorem copyItems_any (w : World) (v : Value) (its : List Item) (hv : Items w w.heap.size v its) (hl : its.length ≤ 1048576) (hsh : Short its its.length) :
    Calls Try.prog 89 #[v] w (CopiedSl itSh 104 its w) := by
  obtain ⟨A, c, rfl, hc2, hc1⟩ := hv.form
  unfold maxLen at hc2
  have hmk := fun W => made0Its its.length (by omega) W
  have HM := Lib.hid (Sh.Own.made0 itSh 104 w its.length (by unfold maxLen; omega))
  have HW := Lib.hid (belowOne w (.cells (madeCells #[.string ByteArray.empty, .slice none 0 0] (its.length * 2)) 104))
  go_enter Try.func89, Try.ntmps89
  go_wp2
  clear hmk
  go_loopw [3, 11] (fun l i wr => ∃ (k : Nat) (Al : Option Addr) (cl : Nat), k ≤ its.length ∧ i = .int .i64 k ∧ l = .slice Al k cl ∧ itSh.Own 104 wr (fun b => w.heap.size ≤ b ∧ b < wr.heap.size) (.slice Al k cl) (its.take k) ∧ Below w.heap.size w wr) (fun _ i _ => its.length - (intOf i).toNat)
  case atStart => exact ⟨0, _, _, Nat.zero_le _, rfl, rfl, HM.out.mono fun b hb => ⟨by omega, by simp; omega⟩, HW.out⟩
  case round =>
    clear HM HW
    obtain ⟨k, Al, cl, hk, rfl, rfl, ho, hb⟩ := hrel
    by_cases hlt : k < its.length
    · obtain ⟨b, off, c', it, u, e1, hit, hB, hs, ck, cu, hu⟩ := (hv.below hb).at_ (k := k) hlt
      obtain ⟨A', c'', hu', hu2, hu3⟩ := hu.form
      subst hu'
      injection e1 with e1a e1b e1c
      subst e1a
      have hvl : it.val.length ≤ 1048576 := (hsh k it hlt hit).2
      have htl : (its.take k).length ≤ 1048576 := by rw [List.length_take]; omega
      have HX := Lib.hid (Held.new wr #[.string it.key, .slice A' it.val.length c''] 104)
      have HB := Lib.hid (hb.alloc hb.size (.cells #[.string it.key, .slice A' it.val.length c''] 104))
      have HO := Lib.hid (ho.below (belowOne wr (.cells #[.string it.key, .slice A' it.val.length c''] 104)))
      have HU := Lib.hid (show Ints ((wr.alloc (.cells #[.string it.key, .slice A' it.val.length c''] 104)).drew) w.heap.size _ it.val from hu.alloc hb.size (.cells #[.string it.key, .slice A' it.val.length c''] 104))
      have HI := Lib.hid hit
      have hzr := hb.size
      clear e1b e1c hv hu hit hb ho hsh
      have k0 := And.intro (HX.out.of 0 _ rfl) (HX.out.of 1 _ rfl)
      go_wp2
      refine wp_region_held_drew (S := (fun w' => w'.cell? ⟨wr.heap.size, 0, none⟩ = some (.string it.key) ∧ w'.cell? ⟨wr.heap.size, 1, none⟩ = some (.slice A' it.val.length c''))) (by kernel_rfl) ?hSr (fun hHeldr => ?str)
      case hSr => (first | (dsimp only; (first | with_reducible exact k3 | with_reducible exact k2 | with_reducible exact k1 | exact k0)) | (first | with_reducible exact k3 | with_reducible exact k2 | with_reducible exact k1 | exact k0))
      refine take_first 0 15 (v := ?vr_1) rfl rfl (by kernel_rfl) (by kernel_rfl) (by kernel_rfl) (fun _ _ _ h => h) (by rfl) ?yr_1 (by assumption) ?rr_1
      case yr_1 => (intro w hSw; (try dsimp only at hSw); go_simp; (try with_reducible rfl))
      simp only [Act.put, List.setIfInBounds_toArray, List.set_cons_zero, List.set_cons_succ]
      refine take_first 1 16 (v := ?vr_2) rfl rfl (by kernel_rfl) (by kernel_rfl) (by kernel_rfl) (fun _ _ _ h => h) (by rfl) ?yr_2 (by assumption) ?rr_2
      case yr_2 => (intro w hSw; (try dsimp only at hSw); go_simp; (try with_reducible rfl))
      simp only [Act.put, List.setIfInBounds_toArray, List.set_cons_zero, List.set_cons_succ]
      refine take_first 2 17 (v := ?vr_3) rfl rfl (by kernel_rfl) (by kernel_rfl) (by kernel_rfl) (fun _ _ _ h => h) (by rfl) ?yr_3 (by assumption) ?rr_3
      case yr_3 => (intro w hSw; (try dsimp only at hSw); go_simp; (try with_reducible rfl))
      simp only [Act.put, List.setIfInBounds_toArray, List.set_cons_zero, List.set_cons_succ]
      refine take_first 3 18 (v := ?vr_4) rfl rfl (by kernel_rfl) (by kernel_rfl) (by kernel_rfl) (fun _ _ _ h => h) (by rfl) ?yr_4 (by assumption) ?rr_4
      case yr_4 => (intro w hSw; (try dsimp only at hSw); go_simp; (try with_reducible rfl))
      simp only [Act.put, List.setIfInBounds_toArray, List.set_cons_zero, List.set_cons_succ]
      refine take_first 4 19 (v := ?vr_5) rfl rfl (by kernel_rfl) (by kernel_rfl) (by kernel_rfl) (fun _ _ _ h => h) (by rfl) ?yr_5 (by assumption) ?rr_5
      case yr_5 => (intro w hSw; (try dsimp only at hSw); go_simp; (try with_reducible rfl))
      simp only [Act.put, List.setIfInBounds_toArray, List.set_cons_zero, List.set_cons_succ]
      refine wpAnyH_ready (rs := [5]) (by kernel_rfl) (by simp) ?_
      refine AllReadyH.cons (o := _) rfl (fun Kr_6 hKr_6 => ?cr_6) ?mr_6
      case mr_6 => exact AllReadyH.nil
      go_simp
      refine (clone_sh _ _ it.val (HU.out.more (by show _ ≤ (World.alloc _ _).heap.size; simp; omega)) hvl).mono ?_; rintro e w1 ⟨u1, rfl, hu1, hb1⟩; obtain ⟨A1, c1, hf1, -, -⟩ := hu1.row.form; subst hf1; have HX1 := Lib.hid (HX.out.onward hb1 rfl); have k1 := And.intro (HX1.out.of 0 _ rfl) (HX1.out.of 1 _ rfl); have HX2 := Lib.hid (HX1.out.after (.cells #[.string it.key, .slice A1 it.val.length c1] 104)); have k2 := And.intro (HX2.out.of 0 _ rfl) (HX2.out.of 1 _ rfl); have HO2 := Lib.hid ((Sh.Own.below (w := (wr.alloc (.cells #[.string it.key, .slice A' it.val.length c''] 104)).drew) HO.out hb1).below (belowOne w1 (.cells #[.string it.key, .slice A1 it.val.length c1] 104))); have hz1 : wr.heap.size < w1.heap.size := HX1.out.1; have HB2 := Lib.hid ((HB.out.drew.trans (hb1.mono (by show _ ≤ (World.alloc _ _).heap.size; simp; omega))).alloc (by omega) (.cells #[.string it.key, .slice A1 it.val.length c1] 104)); have HU2 := Lib.hid (Sh.Own.mono (S' := fun b => wr.heap.size < b ∧ b < w1.heap.size) (hu1.below (belowOne w1 (.cells #[.string it.key, .slice A1 it.val.length c1] 104))) (fun b hb => ⟨by have h := hb.1; have h2 : (wr.alloc (.cells #[.string it.key, .slice A' it.val.length c''] 104)).drew.heap.size = wr.heap.size + 1 := (by show (World.alloc _ _).heap.size = _; simp); omega, hb.2⟩)); clear hu1 hb1
      go_wp2_with fail
      refine hKr_6.out _ _ ?kr_6 (fun hHeldr_6 => ?dr_6)
      case kr_6 => (first | (dsimp only; (first | with_reducible exact k3 | with_reducible exact k2 | with_reducible exact k1 | exact k0)) | (first | with_reducible exact k3 | with_reducible exact k2 | with_reducible exact k1 | exact k0))
      clear hKr_6 Kr_6
      refine take_first 6 21 (v := ?vr_7) rfl rfl (by kernel_rfl) (by kernel_rfl) (by kernel_rfl) (fun _ _ _ h => h) (by rfl) ?yr_7 (by assumption) ?rr_7
      case yr_7 => (intro w hSw; (try dsimp only at hSw); go_simp; (try with_reducible rfl))
      simp only [Act.put, List.setIfInBounds_toArray, List.set_cons_zero, List.set_cons_succ]
      refine wpAnyH_ready (rs := [7]) (by kernel_rfl) (by simp) ?_
      refine AllReadyH.cons (o := _) rfl (fun Kr_8 hKr_8 => ?cr_8) ?mr_8
      case mr_8 => exact AllReadyH.nil
      go_simp
      skip
      go_wp2_with fail
      refine hKr_8.out _ _ ?kr_8 (fun hHeldr_8 => ?dr_8)
      case kr_8 => (first | (dsimp only; (first | with_reducible exact k3 | with_reducible exact k2 | with_reducible exact k1 | exact k0)) | (first | with_reducible exact k3 | with_reducible exact k2 | with_reducible exact k1 | exact k0))
      clear hKr_8 Kr_8
      refine wpAnyH_ready (rs := [8]) (by kernel_rfl) (by simp) ?_
      refine AllReadyH.cons (o := _) rfl (fun Kr_9 hKr_9 => ?cr_9) ?mr_9
      case mr_9 => exact AllReadyH.nil
      rw [if_pos (by rfl)]
      refine app_its (.tmp 15) (.tmp 22) rfl _ _ _ (its.take k) rfl HO2.out w1.heap.size rfl [.string it.key, .slice A1 it.val.length c1] it (it_own.2 ⟨_, rfl, hs, HU2.out⟩) (Held.new w1 _ _) (fun b hb hb2 => by have := hb.2; have := hb2.1; omega) htl ?_; intro v3 w3 ho3 hg3; obtain ⟨A3, c3, hf3, -, -⟩ := ho3.row.form; subst hf3; have HX3 := Lib.hid (HX2.out.outs (Outs.of_grown (S := fun b => w.heap.size ≤ b ∧ b < wr.heap.size) hg3 (HO2.out.blk)) (fun h => by have := h.2; omega)); have k3 := And.intro (HX3.out.of 0 _ rfl) (HX3.out.of 1 _ rfl); have HO3 := Lib.hid ho3; have HG3 := Lib.hid hg3; clear ho3 hg3
      refine hKr_9.out _ _ ?kr_9 (fun hHeldr_9 => ?dr_9)
      case kr_9 => (first | (dsimp only; (first | with_reducible exact k3 | with_reducible exact k2 | with_reducible exact k1 | exact k0)) | (first | with_reducible exact k3 | with_reducible exact k2 | with_reducible exact k1 | exact k0))
      clear hKr_9 Kr_9
      refine take_first 9 3 (v := ?vr_10) rfl rfl (by kernel_rfl) (by kernel_rfl) (by kernel_rfl) (fun _ _ _ h => h) (by rfl) ?yr_10 (by assumption) ?rr_10
      case yr_10 => (intro w hSw; (try dsimp only at hSw); go_simp; (try with_reducible rfl))
      simp only [Act.put, List.setIfInBounds_toArray]
      refine wpAnyH_done (by kernel_rfl) ?er _
      have HB3 := Lib.hid (HB2.out.grown HG3.out (by simp; omega) (fun q hq => (HO2.out.blk q hq).1))
      have hz3 := HG3.out.size
      rw [allocSize] at hz3
      have HF := Lib.hid (Sh.Own.mono (S' := fun b => w.heap.size ≤ b ∧ b < w3.heap.size) HO3.out.cap (fun b hb => by
        refine ⟨?_, hb.2⟩
        rcases hb.1 with hb | hb | hb
        · exact hb.1
        · have := hb.1; omega
        · rw [hb, allocSize]; omega))
      have htk := take_snoc HI.out
      rw [List.length_append, List.length_take, Nat.min_eq_left hk] at HF
      rw [← htk] at HF
      clear htk HO3 HG3 HX3 HO2 HX2 HU2 HX1 HX HO HU k0 k1 k2 k3
      go_wp2
      go_roundw
      case rel => exact ⟨k + 1, A3, c3, by omega, by go_num, rfl, HF.out, HB3.out⟩
      case measure => simp [intOf]; omega
    · have hks : k = its.length := by omega
      have HO : Hid (itSh.Own 104 wr (fun b => w.heap.size ≤ b ∧ b < wr.heap.size) (.slice Al k cl) its) := by
        exact Lib.hid (by have h := ho; rwa [show its.take k = its from List.take_of_length_le (by omega)] at h)
      clear hks hv ho
      go_wp2
      go_ret
      exact ⟨_, rfl, HO.out, hb⟩

end Go.Proofs.Ytkamlibfcakblaa

/- The model's StoDo. -/
namespace Go.Proofs.Ytkamlibfcakblaa
open Go.RowKit

structure DoW (w : World) (xb : Nat) (vx : Value) (cur : List Item) (W : World) : Prop where
  hr : Held W (w.heap.size + 1) [.slice none 0 0]
  hx : Held W xb [vx]
  its : ItemsIn W (· ≠ xb) vx cur
  low : Below w.heap.size w W
section
variable {w W W' : World} {xb : Nat} {vx vn : Value} {cur nxt : List Item}
theorem DoW.next (h : DoW w xb vx cur W) (hn : Below W.heap.size W W') : DoW w xb vx cur W' :=
  ⟨h.hr.below hn h.hr.1, h.hx.below hn h.hx.1, h.its.keep (fun b hb _ => hn.block b hb) hn.size (fun _ _ h => h), h.low.trans (hn.mono h.low.size)⟩
theorem DoW.drew (h : DoW w xb vx cur W) : DoW w xb vx cur W.drew := h.next (Below.refl _ _).drew
theorem DoW.put (h : DoW w xb vx cur W) (hx : w.heap.size + 1 < xb) (hi : ItemsIn W (· ≠ xb) vn nxt) : DoW w xb vn nxt (W.setCell ⟨xb, 0, none⟩ vn) :=
  ⟨h.hr.far (by show _ ≠ xb; omega) _, h.hx.set_ (i := 0) vn, hi.keep (fun b _ hb => Below.heap_setCell W ⟨xb, 0, none⟩ vn b hb) (by simp [World.setCell]) (fun _ _ h => h), h.low.setCell (by show _ ≤ xb; omega) _⟩
end
theorem doBad {its cur : List Item} {ws : List Wr} {k : Nat} {x : Wr} (hs : stoB its = true) (hx : ws[k]? = some x) (hc : (ws.take k).foldl doStep (some its) = some cur) (h : x.ok = false ∨ 40 < (wAll x.key x.del x.val cur).length) : stoDo its ws = [] := by
  have h1 : (ws.take (k + 1)).foldl doStep (some its) = none := by
    rw [doTake hx, hc]
    unfold doStep
    rcases h with h | h
    · simp [h]
    · simp [h]
  unfold stoDo doAll
  rw [if_pos hs, doStop h1]; rfl
theorem doGood {its cur : List Item} {ws : List Wr} {k : Nat} {x : Wr} (hx : ws[k]? = some x) (hc : (ws.take k).foldl doStep (some its) = some cur) (h1 : x.ok = true) (h2 : ¬ 40 < (wAll x.key x.del x.val cur).length) :
    (ws.take (k + 1)).foldl doStep (some its) = some (wAll x.key x.del x.val cur) := by
  rw [doTake hx, hc]
  unfold doStep
  simp only [Option.bind_some]
  rw [if_pos h1, if_neg h2]
theorem doEnd {its cur : List Item} {ws : List Wr} (hs : stoB its = true) (hc : (ws.take ws.length).foldl doStep (some its) = some cur) : stoDo its ws = cur := by
  rw [List.take_length] at hc
  unfold stoDo doAll
  rw [if_pos hs, hc]; rfl
theorem doNot {its : List Item} (ws : List Wr) (hs : stoB its = false) : stoDo its ws = [] := by
  unfold stoDo doAll
  rw [if_neg (by simp [hs])]; rfl

def doGd (vx : Value) (b off k : Nat) (lv arg : Value) (j : Nat) (u : Value) : Prop :=
  match j with
  | 0 => u = .agg #[vx]
  | 1 => u = lv
  | 2 => u = .int .i64 k
  | 3 => u = .pointer (some ⟨b, off + k * 3, none⟩)
  | 4 => u = arg
  | _ => True
def doInv (w : World) (xb : Nat) (vx : Value) (cur nxt : List Item) (b off k : Nat) (lv arg : Value) (w4 : World) (L : Nat → Bool) (U : Nat → Value) (W : World) : Prop :=
  (L 5 = false → (∀ j, L j = true → doGd vx b off k lv arg j (U j)) ∧ W = w4.drew) ∧ (L 5 = true → L 6 = false → ∃ u, U 5 = .agg #[u] ∧ ItemsIn W (· ≠ xb) u nxt ∧ DoW w xb vx cur W) ∧ (L 6 = true → ∃ u, DoW w xb u nxt W)
theorem doStepInv {w : World} {xb : Nat} {vx : Value} {cur nxt : List Item} {b off k : Nat} {lv arg : Value} {w4 : World} {L : Nat → Bool} {U : Nat → Value} {i : Nat} {u : Value} (hi : i < 5) (h5 : L 5 = false) (h6 : L 6 = false) (hG : ∀ j, L j = true → doGd vx b off k lv arg j (U j))
    (hu : doGd vx b off k lv arg i u) : doInv w xb vx cur nxt b off k lv arg w4 (upd L i true) (upd U i u) w4.drew := by
  have e5 : upd L i true 5 = false := by rw [upd_other _ _ (by omega)]; exact h5
  have e6 : upd L i true 6 = false := by rw [upd_other _ _ (by omega)]; exact h6
  refine ⟨fun _ => ⟨RInv.next (Good := fun j (_ : World) u => doGd vx b off k lv arg j u) (w := w4) (w' := w4) hG (fun _ _ h => h) hu, rfl⟩, fun h => ?_, fun h => ?_⟩
  · rw [e5] at h; cases h
  · rw [e6] at h; cases h

set_option maxRecDepth 100000 in
set_option maxHeartbeats 4000000 in
theorem specStoDo_any (w : World) (v lv : Value) (its : List Item) (ws : List Wr) (hv : Items w w.heap.size v its) (hl : Wrts w w.heap.size lv ws) :
    Calls Try.prog 84 #[.agg #[v], lv] w fun e w' => ∃ u, e = .returned (.agg #[u]) ∧ OwnIt w' w.heap.size (w.heap.size ≤ ·) u (stoDo its ws) ∧ Below w.heap.size w w' := by
  obtain ⟨A, c, rfl, hc2, hc1⟩ := hv.form
  obtain ⟨Al, cl, rfl, hcl2, hcl1⟩ := hl.form
  unfold maxLen at hc2 hcl2
  have HV := Lib.hid hv
  have HL := Lib.hid hl
  have HB0 := Lib.hid (belowTwo w (.cells #[.slice A its.length c] 54) (.cells #[.slice none 0 0] 54))
  have HS0 := Lib.hid ((Held.new w #[.slice A its.length c] 54).after (.cells #[.slice none 0 0] 54))
  have hr0 := Held.new (w.alloc (.cells #[.slice A its.length c] 54)) #[.slice none 0 0] 54
  have z1 : (w.alloc (.cells #[.slice A its.length c] 54)).heap.size = w.heap.size + 1 := by simp
  rw [z1] at hr0
  have HR0 := Lib.hid hr0
  clear hv hl hr0 z1
  go_enter Try.func84, Try.ntmps84
  rcases hsb : stoB its
  · go_wp2_with (go_at_call 120; refine (specStoOk_any _ _ its ((HV.out.below HB0.out).more HB0.out.size)).mono ?_; rintro e w1 ⟨rfl, hb1⟩; rw [hsb]; have HR1 := Lib.hid (HR0.out.below hb1 HR0.out.1); have HB1 := Lib.hid (HB0.out.trans (hb1.mono HB0.out.size)); have r1 := HR1.out.of 0 _ rfl; have rf := HR1.out.2.1 0; clear hb1)
    have q0 := (HR1.out.set_ (i := 0) (.slice none 0 0)).of 0 _ rfl
    exact bodyPost_ret (v := .agg #[.slice none 0 0]) (by simp [results, Try.results84, go_sem, q0]) rfl ⟨_, rfl, by rw [doNot ws hsb]; exact OwnIt.nil _ _ _, HB1.out.setCell (by show _ ≤ w.heap.size + 1; omega) _⟩
  · have hfine := stoB_fine hsb
    have h40 := hfine.1
    have HF := Lib.hid hfine.2
    clear hfine
    go_wp2_with (first
      | (go_at_call 120; refine (specStoOk_any _ _ its ((HV.out.below HB0.out).more HB0.out.size)).mono ?_; rintro e w1 ⟨rfl, hb1⟩; rw [hsb]; have HR1 := Lib.hid (HR0.out.below hb1 HR0.out.1); have HB1 := Lib.hid (HB0.out.trans (hb1.mono HB0.out.size)); have HS1 := Lib.hid (HS0.out.below hb1 HS0.out.1); have s1 := HS1.out.of 0 _ rfl; clear hb1 HR0 HB0 HS0)
      | (go_at_call 121; refine (l1Copy_any _ _ its ((HV.out.below HB1.out).more HB1.out.size) HF.out.short (by omega)).mono ?_; rintro e w2 ⟨u2, rfl, ho2, hb2⟩; have HO2 := Lib.hid ho2; have HR2 := Lib.hid (HR1.out.below hb2 HR1.out.1); have HB2 := Lib.hid (HB1.out.trans (hb2.mono HB1.out.size)); have hz2 : w.heap.size + 1 < w2.heap.size := HR2.out.1; obtain ⟨A2, n2, c2, e2⟩ := ownSlice ho2; subst e2; clear ho2 hb2 HR1 HB1 HS1 s1))
    have H0 := Lib.hid (show DoW w w2.heap.size (.slice A2 n2 c2) its (w2.alloc (.cells #[.slice A2 n2 c2] 54)) from
      ⟨HR2.out.after _, Held.new w2 #[.slice A2 n2 c2] 54, (HO2.out.toIn (S' := fun _ => True) (fun _ _ => trivial) (fun _ _ => trivial)).keep (fun b hb _ => Below.heap_alloc w2 _ b hb) (by simp) (fun b hb _ => by omega), HB2.out.alloc (by omega) _⟩)
    clear HR2 HO2 HB2
    go_loopw [6] (fun i wr => ∃ (k : Nat) (vx : Value) (cur : List Item), k ≤ ws.length ∧ i = .int .i64 k ∧ (ws.take k).foldl doStep (some its) = some cur ∧ cur.length ≤ 40 ∧ Fine cur ∧ DoW w w2.heap.size vx cur wr) (fun i _ => ws.length - (intOf i).toNat)
    case atStart => exact ⟨0, _, its, Nat.zero_le _, rfl, rfl, h40, HF.out, H0.out⟩
    case round =>
      clear H0 HF
      obtain ⟨k, vx, cur, hk, rfl, hcur, hc40, hfc, hdo⟩ := hrel
      have HCur := Lib.hid hcur
      have HFc := Lib.hid hfc
      have HD := Lib.hid hdo
      have hzx : w2.heap.size < wr.heap.size := hdo.hx.1
      obtain ⟨Av, cv, hvf, -, -⟩ := hdo.its.form
      subst hvf
      clear hcur hfc hdo
      by_cases hlt : k < ws.length
      · obtain ⟨b, off, d, x, ux, e1, hx, hbB, hks, ck, cd, cu, hu⟩ := (HL.out.below HD.out.low).at_ (k := k) hlt
        obtain ⟨Ax, cx, hxf, -, -⟩ := hu.form
        subst hxf
        injection e1 with e1a e1b e1c
        subst e1a
        clear e1b e1c
        have HX := Lib.hid hx
        have HU := Lib.hid (hu.more HD.out.low.size)
        clear hx hu
        rcases hok : x.ok
        · have HZ := Lib.hid (doBad hsb HX.out HCur.out (.inl hok))
          go_wp2_with (go_at_call 107; refine (specWrtOk_any _ x.key x.del _ x.val hks HU.out).mono ?_; rintro e w4 ⟨rfl, hb4⟩; rw [show wrtB x.key x.del x.val = false from hok]; have HD4 := Lib.hid (HD.out.next hb4); have r1 := HD4.out.hr.of 0 _ rfl; have rf := HD4.out.hr.2.1 0; clear hb4)
          have q0 := (HD4.out.hr.set_ (i := 0) (.slice none 0 0)).of 0 _ rfl
          exact bodyPost_ret (v := .agg #[.slice none 0 0]) (by simp [results, Try.results84, go_sem, q0]) rfl ⟨_, rfl, by rw [HZ.out]; exact OwnIt.nil _ _ _, HD4.out.low.setCell (by show _ ≤ w.heap.size + 1; omega) _⟩
        · go_wp2_with (go_at_call 107; refine (specWrtOk_any _ x.key x.del _ x.val hks HU.out).mono ?_; rintro e w4 ⟨rfl, hb4⟩; rw [show wrtB x.key x.del x.val = true from hok]; have HB4 := Lib.hid hb4; have HD4 := Lib.hid (HD.out.next hb4); clear hb4)
          have hfx := Wr.fine hok
          have HNx := Lib.hid (HFc.out.wAll (del := x.del) hfx)
          have HU4 := Lib.hid ((HU.out.below HB4.out).more HB4.out.size)
          have hz4 : w2.heap.size < w4.heap.size := HD4.out.hx.1
          have hbw : b < wr.heap.size := Nat.lt_of_lt_of_le hbB HD.out.low.size
          have ck4 := (HB4.out.cell (p := ⟨b, off + k * 3, none⟩) hbw).trans ck
          have cd4 := (HB4.out.cell (p := ⟨b, off + k * 3 + 1, none⟩) hbw).trans cd
          have cu4 := (HB4.out.cell (p := ⟨b, off + k * 3 + 2, none⟩) hbw).trans cu
          have cx4 := HD4.out.hx.of 0 _ rfl
          clear HU HD HB4 ck cd cu
          refine wp_region_inv2 (by kernel_rfl) (fun L a W => ∃ U : Nat → Value, a = { tmps := #[.agg #[.slice A its.length c], .slice (some ⟨b, off, none⟩) ws.length cl, .pointer (some ⟨w.heap.size, 0, none⟩), undef, .pointer (some ⟨w.heap.size + 1, 0, none⟩), .pointer (some ⟨w2.heap.size, 0, none⟩), .int .i64 k, .agg #[.slice A its.length c], .bool true, .bool false, undef, .agg #[.slice A its.length c], .agg #[.slice A2 n2 c2], .int .i64 k, .slice (some ⟨b, off, none⟩) ws.length cl, .int .i64 ws.length, .bool true, u17, u18, .slice (some ⟨b, off, none⟩) ws.length cl, .int .i64 k, .pointer (some ⟨b, off + k * 3, none⟩), .agg #[.string x.key, .bool x.del, .slice Ax x.val.length cx], .bool true, .bool false, u25, U 0, U 1, U 2, U 3, U 4, U 5, u32, u33, u34, u35, u36, undef, undef], defers := [] } ∧ doInv w w2.heap.size (.slice Av cur.length cv) cur (wAll x.key x.del x.val cur) b off k (.slice (some ⟨b, off, none⟩) ws.length cl) (.agg #[.string x.key, .bool x.del, .slice Ax x.val.length cx]) w4 L U W) (fun i o ho e he => (backB_at (by kernel_rfl) i o ho e he).1) (fun i o ho e he => (backB_at (by kernel_rfl) i o ho e he).2) ?h0 ?hstep ?hend
          case h0 =>
            exact ⟨fun j => #[u26, u27, u28, u29, u30, u31].getD j undef, rfl, fun _ => ⟨fun j h => absurd h (by simp), rfl⟩, fun h => absurd h (by simp), fun h => absurd h (by simp)⟩
          case hstep =>
            rintro L a W i o ho hLi hpre hdn ⟨U, rfl, h1, h2, -⟩ K hK
            have hi : i < 7 := (Array.getElem?_eq_some_iff.1 ho).1
            have hd5 : ∀ j, j < 5 → L j = false → L 5 = false := fun j hj hL => hdn.notYet 5 5 5 (by kernel_rfl) hj hL
            have hd6 : ∀ j, j < 6 → L j = false → L 6 = false := fun j hj hL => hdn.notYet 1 6 6 (by kernel_rfl) hj hL
            clear hdn
            have HK := Lib.hid hK
            clear hK
            by_cases hi5 : i < 5
            · have h5 := hd5 i hi5 hLi
              have h6 := hd6 i (by omega) hLi
              obtain ⟨hG, rfl⟩ := h1 h5
              have HG := Lib.hid hG
              clear hG h1 h2 hd5 hd6
              rcases (by omega : i = 0 ∨ i = 1 ∨ i = 2 ∨ i = 3 ∨ i = 4) with rfl | rfl | rfl | rfl | rfl
              all_goals (simp at ho; subst ho; simp at hpre)
              · go_simp
                exact HK.out _ _ ⟨upd U 0 (.agg #[(.slice Av cur.length cv)]), by simp [upd], doStepInv (by decide) h5 h6 HG.out (by rfl)⟩
              · go_simp
                exact HK.out _ _ ⟨upd U 1 (.slice (some ⟨b, off, none⟩) ws.length cl), by simp [upd], doStepInv (by decide) h5 h6 HG.out (by rfl)⟩
              · go_simp
                exact HK.out _ _ ⟨upd U 2 (.int .i64 k), by simp [upd], doStepInv (by decide) h5 h6 HG.out (by rfl)⟩
              · have e0 : U 1 = (.slice (some ⟨b, off, none⟩) ws.length cl) := HG.out 1 (by simp [hpre])
                have e1 : U 2 = .int .i64 k := HG.out 2 (by simp [hpre])
                go_simp
                exact HK.out _ _ ⟨upd U 3 (.pointer (some ⟨b, off + k * 3, none⟩)), by simp [upd, e0, e1], doStepInv (by decide) h5 h6 HG.out (by rfl)⟩
              · have e0 : U 3 = (.pointer (some ⟨b, off + k * 3, none⟩)) := HG.out 3 (by simp [hpre])
                go_simp
                exact HK.out _ _ ⟨upd U 4 (.agg #[.string x.key, .bool x.del, .slice Ax x.val.length cx]), by simp [upd, e0], doStepInv (by decide) h5 h6 HG.out (by rfl)⟩
            · rcases (by omega : i = 5 ∨ i = 6) with rfl | rfl
              · have h6 := hd6 5 (by omega) hLi
                obtain ⟨hG, rfl⟩ := h1 hLi
                have HG := Lib.hid hG
                clear hG h1 h2 hd5 hd6
                simp at ho; subst ho; simp at hpre
                have e0 : U 0 = .agg #[(.slice Av cur.length cv)] := HG.out 0 (by simp [hpre])
                have e4 : U 4 = (.agg #[.string x.key, .bool x.del, .slice Ax x.val.length cx]) := HG.out 4 (by simp [hpre])
                go_simp
                go_wp2_with (go_at_call 122; refine (l1Write_any (· ≠ w2.heap.size) w4.drew _ cur HD4.out.drew.its x.key x.del Ax cx x.val HU4.out hks (by omega) (by omega)).mono ?_; rintro e W5 ⟨u5, rfl, hi5, hb5⟩)
                exact HK.out _ _ ⟨upd U 5 (.agg #[u5]), by simp [upd, e0, e4], fun h => absurd h (by simp [upd]), fun _ _ => ⟨u5, by simp [upd], hi5.keep (fun _ _ _ => rfl) (Nat.le_refl _) (fun q _ hq => hq.elim id (fun h => by have : w4.heap.size ≤ q := h; omega)), HD4.out.drew.next hb5⟩, fun h => absurd h (by simp [upd, h6])⟩
              · clear h1 hd5 hd6
                simp at ho; subst ho; simp at hpre
                obtain ⟨u5, e5, hi5', hd5⟩ := h2 (by simp [hpre]) hLi
                have h5 : L 5 = true := by simp [hpre]
                obtain ⟨A5, n5, c5, e6⟩ : ∃ A n c, u5 = .slice A n c := by
                  obtain ⟨A5, c5, e6, -, -⟩ := hi5'.form
                  exact ⟨A5, _, c5, e6⟩
                subst e6
                have cb := hd5.hx.of 0 _ rfl
                have fb := hd5.hx.2.1 0
                have HP := Lib.hid (hd5.put hz2 hi5')
                clear hd5 hi5' h2
                go_simp
                exact HK.out _ _ ⟨U, by simp [e5], fun h => absurd h (by simp [upd, h5]), fun _ h => absurd h (by simp [upd]), fun _ => ⟨_, HP.out⟩⟩
          case hend =>
            rintro L a W hL ⟨U, rfl, -, -, h6⟩
            obtain ⟨u5, hd⟩ := h6 (hL 6 (by decide))
            obtain ⟨A5, c5, e6, hm5, -⟩ := hd.its.form
            subst e6
            have HD := Lib.hid hd
            have cx6 := hd.hx.of 0 _ rfl
            have r1 := hd.hr.of 0 _ rfl
            have rf := hd.hr.2.1 0
            clear hd HD4 HU4 cx4 ck4 cd4 cu4
            unfold maxLen at hm5
            by_cases hgt : 40 < (wAll x.key x.del x.val cur).length
            · have HZ := Lib.hid (doBad hsb HX.out HCur.out (.inr hgt))
              go_wp2
              have q0 := (HD.out.hr.set_ (i := 0) (.slice none 0 0)).of 0 _ rfl
              exact bodyPost_ret (v := .agg #[.slice none 0 0]) (by simp [results, Try.results84, go_sem, q0]) rfl ⟨_, rfl, by rw [HZ.out]; exact OwnIt.nil _ _ _, HD.out.low.setCell (by show _ ≤ w.heap.size + 1; omega) _⟩
            · have HZ := Lib.hid (doGood HX.out HCur.out hok hgt)
              go_wp2
              exact ⟨⟨k + 1, _, _, by omega, by simp, HZ.out, by omega, HNx.out, HD.out⟩, by simp [intOf]; omega⟩
      · have hke : k = ws.length := by omega
        subst hke
        have HZ := Lib.hid (doEnd hsb HCur.out)
        have cx := HD.out.hx.of 0 _ rfl
        go_wp2_with (go_at_call 121; refine (l1Copy_any _ _ cur HD.out.its.items HFc.out.short (by omega)).mono ?_; rintro e w5 ⟨u5, rfl, ho5, hb5⟩; obtain ⟨A5, n5, c5, e5⟩ := ownSlice ho5; subst e5; have HO5 := Lib.hid ho5; have HD5 := Lib.hid (HD.out.next hb5); have r1 := HD5.out.hr.of 0 _ rfl; have rf := HD5.out.hr.2.1 0; clear hb5 ho5)
        have q0 := (HD5.out.hr.set_ (i := 0) (.slice A5 n5 c5)).of 0 _ rfl
        exact bodyPost_ret (v := .agg #[.slice A5 n5 c5]) (by simp [results, Try.results84, go_sem, q0]) rfl ⟨_, rfl, by rw [HZ.out]; exact (HO5.out.setCell (by show ¬ _ ≤ w.heap.size + 1; omega) (by show w.heap.size + 1 < _; omega) _).weaken (by omega) (fun q hq => by omega), HD5.out.low.setCell (by show _ ≤ w.heap.size + 1; omega) _⟩

end Go.Proofs.Ytkamlibfcakblaa
