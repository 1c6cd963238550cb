/- Texts that follow each other, merged: StoDoI, StoTwoW, FoldF. -/
import Derived.Test.YtkamlibfcakblaaXCopyI
import Derived.Test.YtkamlibfcakblaaXStoMap
import Derived.Test.YtkamlibfcakblaaXShal
import Derived.Test.YtkamlibfcakblaaXShalW

/- The program's StoDo. -/
namespace Go.Proofs.Ytkamlibfcakblaa
open Go.RowKit

/-- A store of its own, as a record. -/
def StoMade (its : List Item) (w : World) (e : Ending) (w' : World) : Prop :=
  ∃ u, e = .returned (.agg #[u]) ∧ itSh.Own 104 w' (fun b => w.heap.size ≤ b ∧ b < w'.heap.size) u its ∧ Below w.heap.size w w'
theorem wAll_short {its : List Item} {x : Wr} (h : Fine its) (hx : x.ok = true) : Fine (wAll x.key x.del x.val its) := Fine.wAll h (Wr.fine hx)

set_option maxRecDepth 100000 in
set_option maxHeartbeats 2000000 in
theorem implStoDo_any (w : World) (v lv : Value) (its : List Item) (ws : List Wr) (hv : Items w w.heap.size v its) (hw : Wrts w w.heap.size lv ws) :
    Calls Try.prog 38 #[.agg #[v], lv] w (StoMade (stoDo its ws) w) := by
  obtain ⟨A, c, rfl, hc2, hc1⟩ := hv.form
  obtain ⟨A2, c2, rfl, hd2, hd1⟩ := hw.form
  unfold maxLen at hc2 hd2
  have HB := Lib.hid (belowTwo w (.cells #[.slice A its.length c] 54) (.cells #[.slice none 0 0] 54))
  have HX := Lib.hid ((Held.new w #[.slice A its.length c] 54).after (.cells #[.slice none 0 0] 54))
  have HR := Lib.hid (show Held ((w.alloc (.cells #[.slice A its.length c] 54)).alloc (.cells #[.slice none 0 0] 54)) (w.heap.size + 1) [.slice none 0 0] from by have h := Held.new (w.alloc (.cells #[.slice A its.length c] 54)) #[.slice none 0 0] 54; rwa [allocSize] at h)
  have HV := Lib.hid hv
  have HW := Lib.hid hw
  clear hv hw
  go_enter Try.func38, Try.ntmps38
  go_wp2_with fail
  refine (implStoOk_any _ _ _ ((HV.out.below HB.out).more HB.out.size)).mono ?_
  rintro e w1 ⟨rfl, hb1⟩
  have HB1 := Lib.hid (belowNext HB.out hb1)
  have HX1 := Lib.hid (HX.out.below hb1 HX.out.1)
  have HR1 := Lib.hid (HR.out.below hb1 HR.out.1)
  clear hb1 HB HX HR
  cases hs : stoB its with
  | false =>
    have HE := Lib.hid (doNot ws hs)
    clear hs
    have r0 := HR1.out.of 0 _ rfl
    have rf := HR1.out.2.1
    go_wp2
    have HR2 := HR1.out.set_ (i := 0) (.slice none 0 0)
    have q0 := HR2.of 0 _ rfl
    refine bodyPost_ret (v := .agg #[.slice none 0 0]) (by simp only [results, Try.results38, go_sem]; simp [go_sem, q0]) rfl ⟨_, rfl, by rw [HE.out]; exact Sh.Own.nil _ _, HB1.out.setCell (by show w.heap.size ≤ w.heap.size + 1; omega) _⟩
  | true =>
    go_wp2_with fail
    refine (writesOk_any _ _ ws (wrts_row.1 ((wrts_row.2 (HW.out.below HB1.out)).more HB1.out.size))).mono ?_
    rintro e w2 ⟨rfl, hb2⟩
    have HB2 := Lib.hid (belowNext HB1.out hb2)
    have HX2 := Lib.hid (HX1.out.below hb2 HX1.out.1)
    have HR2 := Lib.hid (HR1.out.below hb2 HR1.out.1)
    clear hb2 HB1 HX1 HR1
    have r0 := HR2.out.of 0 _ rfl
    have rf := HR2.out.2.1
    cases hok : ws.all Wr.ok with
    | false =>
      have HE : Hid (stoDo its ws = []) := Lib.hid (by
        obtain ⟨x, hx, hxo⟩ := List.all_eq_false.1 hok
        obtain ⟨j, hj, rfl⟩ := List.getElem_of_mem hx
        exact doneBad (List.getElem?_eq_getElem hj) (by simpa using hxo))
      clear hs hok
      go_wp2
      have HR3 := HR2.out.set_ (i := 0) (.slice none 0 0)
      have q0 := HR3.of 0 _ rfl
      refine bodyPost_ret (v := .agg #[.slice none 0 0]) (by simp only [results, Try.results38, go_sem]; simp [go_sem, q0]) rfl ⟨_, rfl, by rw [HE.out]; exact Sh.Own.nil _ _, HB2.out.setCell (by show w.heap.size ≤ w.heap.size + 1; omega) _⟩
    | true =>
      have HS := Lib.hid hs
      have HOk := Lib.hid fun x hx => List.all_eq_true.1 hok x hx
      have HFi := Lib.hid (stoB_fine hs)
      have h40 := (stoB_fine hs).1
      clear hs hok
      have x0 := HX2.out.of 0 _ rfl
      have hz2 : w.heap.size + 1 < w2.heap.size := HR2.out.1
      go_wp2_with fail
      refine (copyItems_any _ _ its ((HV.out.below HB2.out).more HB2.out.size) (by omega) HFi.out.2.short).mono ?_
      rintro e w3 ⟨u3, rfl, ho3, hb3⟩
      obtain ⟨A3, c3, hf3, -, -⟩ := ho3.row.form
      subst hf3
      have HO3 := Lib.hid ho3
      have HB3 := Lib.hid hb3
      clear ho3 hb3 x0 r0 rf
      go_wp2
      go_loopw [5, 22] (fun l i wr => ∃ (k : Nat) (cur : List Item) (Al : Option Addr) (cl : Nat), k ≤ ws.length ∧ i = .int .i64 k ∧ l = .slice Al cur.length cl ∧ (ws.take k).foldl doStep (some its) = some cur ∧ Rise cur cur.length ∧ cur.length ≤ 40 ∧ itSh.Own 104 wr (fun b => w2.heap.size ≤ b ∧ b < wr.heap.size) (.slice Al cur.length cl) cur ∧ Below w2.heap.size w2 wr) (fun _ i _ => ws.length - (intOf i).toNat)
      case atStart => exact ⟨0, its, A3, c3, Nat.zero_le _, rfl, rfl, rfl, stoB_rise HS.out, h40, HO3.out, HB3.out⟩
      case round =>
        clear HO3 HB3
        obtain ⟨k, cur, Al, cl, hk, rfl, rfl, hcur, hri, hc40, ho, hb⟩ := hrel
        have HRr := Lib.hid (HR2.out.below hb hz2)
        have HBr := Lib.hid (HB2.out.trans (hb.mono (by omega)))
        have hzr := hb.size
        by_cases hlt : k < ws.length
        · obtain ⟨b, off, c', x, u, e1, hx, hB, hs, d0, d1, d2, hu⟩ := (HW.out.below HBr.out).at_ (k := k) hlt
          obtain ⟨A', c'', hu', hu2, hu3⟩ := hu.form
          subst hu'
          injection e1 with e1a e1b e1c
          subst e1a
          have hxo := HOk.out x (List.mem_of_getElem? hx)
          have hxf := Wr.fine hxo
          have HXo := Lib.hid hxo
          obtain ⟨key, del, val⟩ := x
          simp only at hs d0 d1 d2 hu hu2 hu3 hxf
          obtain ⟨f1, -, f3, -⟩ := wAll_facts (wk := key) (wv := val) hri del
          have hlen : (wAll key del val cur).length ≤ 41 := by
            have : (if del = true then 0 else 1) ≤ 1 := by split <;> omega
            omega
          have HT := Lib.hid (Held.new wr #[.string key, .bool del, .slice A' val.length c''] 86)
          have HF1 := Lib.hid f1
          have HCur := Lib.hid hcur
          have HRi := Lib.hid hri
          have HX := Lib.hid hx
          have HO := Lib.hid (ho.below (belowOne wr (.cells #[.string key, .bool del, .slice A' val.length c''] 86)))
          have HB := Lib.hid (hb.alloc hb.size (.cells #[.string key, .bool del, .slice A' val.length c''] 86))
          have HU := Lib.hid (show Ints ((wr.alloc (.cells #[.string key, .bool del, .slice A' val.length c''] 86)).drew) w.heap.size _ val from hu.alloc HBr.out.size (.cells #[.string key, .bool del, .slice A' val.length c''] 86))
          clear e1b e1c hu hx hcur hri hb ho f1 f3 hxo
          cases del with
          | true =>
            have t0 := HT.out.of 0 _ rfl
            have t1 := HT.out.of 1 _ rfl
            go_wp2_with fail
            refine (drop_any _ _ _ cur HO.out (by omega) HRi.out key val).mono ?_
            rintro e w5 ⟨v5, rfl, ho5, hg5⟩
            obtain ⟨A5, c5, hf5, -, -⟩ := ho5.row.form
            subst hf5
            have HO5 := Lib.hid (Sh.Own.mono (S' := fun b => w2.heap.size ≤ b ∧ b < w5.heap.size) ho5.cap (fun b hb => ⟨by rcases hb.1 with h | h; exact h.1; rw [allocSize] at h; omega, hb.2⟩))
            have HB5 := Lib.hid (HB.out.grown hg5 (by rw [allocSize]; omega) (fun q hq => (HO.out.blk q hq).1))
            clear ho5 hg5 t0 t1
            have HR5 := Lib.hid (HR2.out.below HB5.out hz2)
            have HBw := Lib.hid (HB2.out.trans (HB5.out.mono (by omega)))
            have r0 := HR5.out.of 0 _ rfl
            have rf := HR5.out.2.1
            by_cases h41 : 40 < (wAll key true val cur).length
            · have HE := Lib.hid (doBad HS.out HX.out HCur.out (.inr h41))
              have h41' : (40 : Int) < ((wAll key true val cur).length : Int) := by omega
              go_wp2
              have HR6 := HR5.out.set_ (i := 0) (.slice none 0 0)
              have q0 := HR6.of 0 _ rfl
              refine bodyPost_ret (v := .agg #[.slice none 0 0]) (by simp only [results, Try.results38, go_sem]; simp [go_sem, q0]) rfl ⟨_, rfl, by rw [HE.out]; exact Sh.Own.nil _ _, HBw.out.setCell (by show w.heap.size ≤ w.heap.size + 1; omega) _⟩
            · have HN := Lib.hid (doGood HX.out HCur.out HXo.out h41)
              have h41' : ((wAll key true val cur).length : Int) ≤ 40 := by omega
              go_wp2
              go_roundw
              case rel => exact ⟨k + 1, _, A5, c5, by omega, by go_num, rfl, HN.out, HF1.out, by omega, HO5.out, HB5.out⟩
              case measure => simp [intOf]; omega
          | false =>
            have k0 := And.intro (HT.out.of 0 _ rfl) (HT.out.of 2 _ rfl)
            have t1 := HT.out.of 1 _ rfl
            go_wp2
            clear t1
            refine wp_region_held_drew (S := (fun w' => w'.cell? ⟨wr.heap.size, 0, none⟩ = some (.string key) ∧ w'.cell? ⟨wr.heap.size, 2, none⟩ = some (.slice A' val.length c''))) (by kernel_rfl) ?hSq (fun hHeldq => ?stq)
            case hSq => (first | (dsimp only; (first | with_reducible exact k2 | with_reducible exact k1 | exact k0)) | (first | with_reducible exact k2 | with_reducible exact k1 | exact k0))
            refine take_first 0 32 (v := ?vq_1) rfl rfl (by kernel_rfl) (by kernel_rfl) (by kernel_rfl) (fun _ _ _ h => h) (by rfl) ?yq_1 (by assumption) ?rq_1
            case yq_1 => (intro w hSw; (try dsimp only at hSw); go_simp; (try with_reducible rfl))
            simp only [Act.put, List.setIfInBounds_toArray, List.set_cons_zero, List.set_cons_succ]
            refine take_first 1 33 (v := ?vq_2) rfl rfl (by kernel_rfl) (by kernel_rfl) (by kernel_rfl) (fun _ _ _ h => h) (by rfl) ?yq_2 (by assumption) ?rq_2
            case yq_2 => (intro w hSw; (try dsimp only at hSw); go_simp; (try with_reducible rfl))
            simp only [Act.put, List.setIfInBounds_toArray, List.set_cons_zero, List.set_cons_succ]
            refine take_first 2 34 (v := ?vq_3) rfl rfl (by kernel_rfl) (by kernel_rfl) (by kernel_rfl) (fun _ _ _ h => h) (by rfl) ?yq_3 (by assumption) ?rq_3
            case yq_3 => (intro w hSw; (try dsimp only at hSw); go_simp; (try with_reducible rfl))
            simp only [Act.put, List.setIfInBounds_toArray, List.set_cons_zero, List.set_cons_succ]
            refine take_first 3 35 (v := ?vq_4) rfl rfl (by kernel_rfl) (by kernel_rfl) (by kernel_rfl) (fun _ _ _ h => h) (by rfl) ?yq_4 (by assumption) ?rq_4
            case yq_4 => (intro w hSw; (try dsimp only at hSw); go_simp; (try with_reducible rfl))
            simp only [Act.put, List.setIfInBounds_toArray, List.set_cons_zero, List.set_cons_succ]
            refine take_first 4 36 (v := ?vq_5) rfl rfl (by kernel_rfl) (by kernel_rfl) (by kernel_rfl) (fun _ _ _ h => h) (by rfl) ?yq_5 (by assumption) ?rq_5
            case yq_5 => (intro w hSw; (try dsimp only at hSw); go_simp; (try with_reducible rfl))
            simp only [Act.put, List.setIfInBounds_toArray, List.set_cons_zero, List.set_cons_succ]
            refine wpAnyH_ready (rs := [5]) (by kernel_rfl) (by simp) ?_
            refine AllReadyH.cons (o := _) rfl (fun Kq_6 hKq_6 => ?cq_6) ?mq_6
            case mq_6 => exact AllReadyH.nil
            go_simp
            refine (clone_sh _ _ val (HU.out.more (by show _ ≤ (World.alloc _ _).heap.size; rw [allocSize]; omega)) (by omega)).mono ?_; rintro e w4 ⟨u4, rfl, hu4, hb4⟩; obtain ⟨A4, c4, hf4, -, -⟩ := hu4.row.form; subst hf4; have HT4 := Lib.hid (HT.out.onward hb4 rfl); have k1 := And.intro (HT4.out.of 0 _ rfl) (HT4.out.of 2 _ rfl); have HO4 := Lib.hid (Sh.Own.below (w := (wr.alloc (.cells #[.string key, .bool false, .slice A' val.length c''] 86)).drew) HO.out hb4); have hz4 : wr.heap.size < w4.heap.size := HT4.out.1; have HB4 := Lib.hid (HB.out.drew.trans (hb4.mono (by show _ ≤ (World.alloc _ _).heap.size; rw [allocSize]; omega))); have HU4 := Lib.hid (Sh.Own.mono (S' := fun b => wr.heap.size < b ∧ b < w4.heap.size) hu4 (fun b hb => ⟨by have h := hb.1; have h2 : (wr.alloc (.cells #[.string key, .bool false, .slice A' val.length c''] 86)).drew.heap.size = wr.heap.size + 1 := allocSize _ _; omega, hb.2⟩)); clear hu4 hb4
            go_wp2_with fail
            refine hKq_6.out _ _ ?kq_6 (fun hHeldq_6 => ?dq_6)
            case kq_6 => (first | (dsimp only; (first | with_reducible exact k2 | with_reducible exact k1 | exact k0)) | (first | with_reducible exact k2 | with_reducible exact k1 | exact k0))
            clear hKq_6 Kq_6
            refine take_first 6 38 (v := ?vq_7) rfl rfl (by kernel_rfl) (by kernel_rfl) (by kernel_rfl) (fun _ _ _ h => h) (by rfl) ?yq_7 (by assumption) ?rq_7
            case yq_7 => (intro w hSw; (try dsimp only at hSw); go_simp; (try with_reducible rfl))
            simp only [Act.put, List.setIfInBounds_toArray, List.set_cons_zero, List.set_cons_succ]
            refine wpAnyH_ready (rs := [7]) (by kernel_rfl) (by simp) ?_
            refine AllReadyH.cons (o := _) rfl (fun Kq_8 hKq_8 => ?cq_8) ?mq_8
            case mq_8 => exact AllReadyH.nil
            go_simp
            refine (put_any _ _ _ _ cur HO4.out (by omega) HRi.out ⟨key, val⟩ _ (it_own.2 ⟨_, rfl, hs, HU4.out⟩) (fun b hb => by have := hb.2; omega) (fun b hb hb2 => by have := hb.2; have := hb2.1; omega)).mono ?_; rintro e w5 ⟨v5, rfl, ho5, hg5⟩; obtain ⟨A5, c5, hf5, -, -⟩ := ho5.row.form; subst hf5; have HT5 := Lib.hid (HT4.out.outs (Outs.of_grown (S := fun b => w2.heap.size ≤ b ∧ b < wr.heap.size) hg5 (HO4.out.blk)) (fun h => by have := h.2; omega)); have k2 := And.intro (HT5.out.of 0 _ rfl) (HT5.out.of 2 _ rfl); have HP5 := Lib.hid ho5; have HG5 := Lib.hid hg5; clear ho5 hg5
            go_wp2_with fail
            refine hKq_8.out _ _ ?kq_8 (fun hHeldq_8 => ?dq_8)
            case kq_8 => (first | (dsimp only; (first | with_reducible exact k2 | with_reducible exact k1 | exact k0)) | (first | with_reducible exact k2 | with_reducible exact k1 | exact k0))
            clear hKq_8 Kq_8
            refine take_first 8 5 (v := ?vq_9) rfl rfl (by kernel_rfl) (by kernel_rfl) (by kernel_rfl) (fun _ _ _ h => h) (by rfl) ?yq_9 (by assumption) ?rq_9
            case yq_9 => (intro w hSw; (try dsimp only at hSw); go_simp; (try with_reducible rfl))
            simp only [Act.put, List.setIfInBounds_toArray, List.set_cons_zero, List.set_cons_succ]
            refine wpAnyH_done (by kernel_rfl) ?eq _
            have HO5 := Lib.hid (Sh.Own.mono (S' := fun b => w2.heap.size ≤ b ∧ b < w5.heap.size) HP5.out.cap (fun b hb => ⟨by rcases hb.1 with (h | h) | h; exact h.1; have := h.1; omega; omega, hb.2⟩))
            have HB5 := Lib.hid (HB4.out.grown HG5.out (by omega) (fun q hq => (HO4.out.blk q hq).1))
            clear k0 k1 k2 HT HT4 HT5 HP5 HG5
            have HR5 := Lib.hid (HR2.out.below HB5.out hz2)
            have HBw := Lib.hid (HB2.out.trans (HB5.out.mono (by omega)))
            have r0 := HR5.out.of 0 _ rfl
            have rf := HR5.out.2.1
            by_cases h41 : 40 < (wAll key false val cur).length
            · have HE := Lib.hid (doBad HS.out HX.out HCur.out (.inr h41))
              have h41' : (40 : Int) < ((wAll key false val cur).length : Int) := by omega
              go_wp2
              have HR6 := HR5.out.set_ (i := 0) (.slice none 0 0)
              have q0 := HR6.of 0 _ rfl
              refine bodyPost_ret (v := .agg #[.slice none 0 0]) (by simp only [results, Try.results38, go_sem]; simp [go_sem, q0]) rfl ⟨_, rfl, by rw [HE.out]; exact Sh.Own.nil _ _, HBw.out.setCell (by show w.heap.size ≤ w.heap.size + 1; omega) _⟩
            · have HN := Lib.hid (doGood HX.out HCur.out HXo.out h41)
              have h41' : ((wAll key false val cur).length : Int) ≤ 40 := by omega
              go_wp2
              go_roundw
              case rel => exact ⟨k + 1, _, A5, c5, by omega, by go_num, rfl, HN.out, HF1.out, by omega, HO5.out, HB5.out⟩
              case measure => simp [intOf]; omega
        · have HE := Lib.hid (doEnd HS.out ((show k = ws.length by omega) ▸ hcur))
          have HO := Lib.hid ho
          have r0 := HRr.out.of 0 _ rfl
          have rf := HRr.out.2.1
          clear hcur ho hb hri
          go_wp2
          have HR4 := HRr.out.set_ (i := 0) (.slice Al cur.length cl)
          have q0 := HR4.of 0 _ rfl
          refine bodyPost_ret (v := .agg #[.slice Al cur.length cl]) (by simp only [results, Try.results38, go_sem]; simp [go_sem, q0]) rfl ⟨_, rfl, ?_, HBr.out.setCell (by show w.heap.size ≤ w.heap.size + 1; omega) _⟩
          rw [HE.out]
          exact (HO.out.keep fun b hb' _ => Below.heap_setCell _ _ _ _ (by show b ≠ w.heap.size + 1; have := hb'.1; omega)).mono fun b hb' => ⟨by have := hb'.1; omega, by simpa [World.setCell] using hb'.2⟩

end Go.Proofs.Ytkamlibfcakblaa

/- Two rows of writes behind each other; what holds while a store is made beside them. -/
namespace Go.Proofs.Ytkamlibfcakblaa
open Go.RowKit

theorem infoW3 : (Try.prog.info? 86).map (fun i => (i.zero, i.size, i.bytes)) = some (some (.agg #[.string ByteArray.empty, .bool false, .slice none 0 0]), 3, 48) := by kernel_rfl
theorem infoW3_parts : ∃ i, Try.prog.info? 86 = some i ∧ i.zero = some (.agg #[.string ByteArray.empty, .bool false, .slice none 0 0]) ∧ i.size = 3 ∧ i.bytes = 48 := by
  have h := infoW3
  cases hi : Try.prog.info? 86 with
  | none => rw [hi] at h; cases h
  | some i =>
    rw [hi] at h
    simp only [Option.map_some, Option.some.injEq, Prod.mk.injEq] at h
    exact ⟨i, rfl, h.1, h.2.1, h.2.2⟩
/-- append of some writes to a row of one's own. -/
theorem shalW_wp {o : Oper} {a : Act} {w : World} {K : Act → World → Prop} {Q : Exit → Act → World → Prop} (s x : Operand)
    (ho : o.op = .call { callee := .builtin .append, args := #[s, x], argTypes := #[34, 34] }) (B : Nat) (v : Value) (xs ys : List Wr) (hs : a.eval s = v) (hv : wrSh.Shal 86 w B v xs) (hB : B ≤ w.heap.size)
    (Ad : Option Addr) (n c : Nat) (hx : a.eval x = .slice Ad n c) (hn : n = ys.length) (hy : wrSh.Row w B (.slice Ad n c) ys) (hl : xs.length + ys.length ≤ 2097152)
    (h : ∀ v' w', wrSh.Shal 86 w' B v' (xs ++ ys) → Below B w w' → (v'.ownBlock = v.ownBlock ∨ v'.ownBlock = some w.heap.size) → w.grownBy w' v.ownBlock → K (a.put o.dst v') w') :
    Oper.wp Try.prog o a w K Q := by
  obtain ⟨i, hi, hz, hsz, hb⟩ := infoW3_parts
  obtain ⟨v', w', hr, h2, h3, h4, h5⟩ := Sh.shal_run (P := Try.prog) (A := wrSh) i _ 48 Try.underlying34 hi hz hsz hb rfl (by decide) hv hB Ad n c hn hy o.type hl (by omega)
  unfold Oper.wp execOp
  simp only [ho, resolve, invoke, builtin, Sem.run_bind, Sem.run_pure, Result.andThen_ok, List.map_toArray, List.map_cons, List.map_nil, hs, hx, hr]
  exact h v' w' h2 h3 h4 h5
theorem shalW_wpl {w : World} {ops : Array Oper} {rest : List Oper} {o : Oper} {a : Act} {Q : Exit → Act → World → Prop} (hgd : o.guard = none) (s x : Operand)
    (ho : o.op = .call { callee := .builtin .append, args := #[s, x], argTypes := #[34, 34] }) (B : Nat) (v : Value) (xs ys : List Wr) (hs : a.eval s = v) (hv : wrSh.Shal 86 w B v xs) (hB : B ≤ w.heap.size)
    (Ad : Option Addr) (n c : Nat) (hx : a.eval x = .slice Ad n c) (hn : n = ys.length) (hy : wrSh.Row w B (.slice Ad n c) ys) (hl : xs.length + ys.length ≤ 2097152)
    (h : ∀ v' w', wrSh.Shal 86 w' B v' (xs ++ ys) → Below B w w' → wpList Try.prog ops Q rest (a.put o.dst v') w') : wpList Try.prog ops Q (o :: rest) a w :=
  wpList_plain hgd fun _ hK => shalW_wp s x ho B v xs ys hs hv hB Ad n c hx hn hy hl fun v' w' h2 h3 _ _ => hK _ _ (h v' w' h2 h3)

/-- The store beside, done or not yet. -/
structure R0 (W0 : World) (M : List Item) (d : Option Value) (W : World) : Prop where
  low : Below W0.heap.size W0 W
  don : ∀ u, d = some u → ∃ S : Nat → Prop, itSh.Own 104 W S u M ∧ ∀ b, S b → b < W.heap.size
/-- The same, beside a row of one's own. -/
structure R1 (W0 : World) (M : List Item) (zs : List Wr) (v : Value) (d : Option Value) (W : World) : Prop where
  low : Below W0.heap.size W0 W
  sh : wrSh.Shal 86 W W0.heap.size v zs
  don : ∀ u, d = some u → ∃ S : Nat → Prop, itSh.Own 104 W S u M ∧ ∀ b, S b → b < W.heap.size ∧ v.ownBlock ≠ some b
section
variable {W0 W W' : World} {M : List Item} {zs : List Wr} {v u : Value} {d : Option Value}
theorem R0.start (W0 : World) (M : List Item) : R0 W0 M none W0 := ⟨Below.refl _ _, fun _ h => by cases h⟩
theorem R0.drew (h : R0 W0 M d W) : R0 W0 M d W.drew := ⟨h.low.drew, fun u hu => by obtain ⟨S, h1, h2⟩ := h.don u hu; exact ⟨S, h1.keep fun _ _ _ => rfl, h2⟩⟩
theorem R1.drew (h : R1 W0 M zs v d W) : R1 W0 M zs v d W.drew :=
  ⟨h.low.drew, h.sh.below (Below.refl _ _).drew h.low.size, fun u hu => by obtain ⟨S, h1, h2⟩ := h.don u hu; exact ⟨S, h1.keep fun _ _ _ => rfl, h2⟩⟩
theorem R0.next (h : R0 W0 M d W) (hb : Below W.heap.size W W') : R0 W0 M d W' :=
  ⟨belowNext h.low hb, fun u hu => by obtain ⟨S, h1, h2⟩ := h.don u hu; exact ⟨S, h1.below hb, fun b hs => Nat.lt_of_lt_of_le (h2 b hs) hb.size⟩⟩
theorem R0.call (h : R0 W0 M none W) (ho : itSh.Own 104 W' (fun b => W.heap.size ≤ b ∧ b < W'.heap.size) u M) (hb : Below W.heap.size W W') : R0 W0 M (some u) W' :=
  ⟨belowNext h.low hb, fun u' hu => by injection hu with hu; subst hu; exact ⟨_, ho, fun b hs => hs.2⟩⟩
theorem R0.lit (h : R0 W0 M d W) : R1 W0 M [] (.slice (some ⟨W.heap.size, 0, none⟩) 0 0) d (W.alloc (.cells #[] 86 (0, 0))) := by
  refine ⟨h.low.alloc h.low.size _, Sh.Shal.empty (Go.Deep.blk_alloc_new W _) h.low.size, fun u hu => ?_⟩
  obtain ⟨S, h1, h2⟩ := h.don u hu
  refine ⟨S, h1.below (belowOne W _), fun b hs => ⟨by rw [allocSize]; have := h2 b hs; omega, fun e => ?_⟩⟩
  have e' : W.heap.size = b := Option.some.inj e
  have := h2 b hs; omega
theorem R1.call (h : R1 W0 M zs v none W) (ho : itSh.Own 104 W' (fun b => W.heap.size ≤ b ∧ b < W'.heap.size) u M) (hb : Below W.heap.size W W') : R1 W0 M zs v (some u) W' := by
  refine ⟨belowNext h.low hb, h.sh.below hb h.low.size, fun u' hu => ?_⟩
  injection hu with hu; subst hu
  refine ⟨_, ho, fun b hs => ⟨hs.2, fun e => ?_⟩⟩
  rcases h.sh.form with ⟨rfl, _⟩ | ⟨g, cap, rfl, _, hg, _⟩
  · cases e
  · have e' : g = b := Option.some.inj e
    omega
theorem R1.grow (h : R1 W0 M zs v d W) {v' : Value} {zs' : List Wr} (hs : wrSh.Shal 86 W' W0.heap.size v' zs') (hb : Below W0.heap.size W W') (ho : v'.ownBlock = v.ownBlock ∨ v'.ownBlock = some W.heap.size) (hg : W.grownBy W' v.ownBlock) : R1 W0 M zs' v' d W' := by
  refine ⟨h.low.trans hb, hs, fun u hu => ?_⟩
  obtain ⟨S, h1, h2⟩ := h.don u hu
  refine ⟨S, h1.keep fun b hs hlt => hg.block b hlt (fun e => (h2 b hs).2 e.symm), fun b hs => ⟨Nat.lt_of_lt_of_le (h2 b hs).1 hb.size, fun e => ?_⟩⟩
  rcases ho with ho | ho
  · exact (h2 b hs).2 (ho ▸ e)
  · rw [ho] at e
    have e' : W.heap.size = b := Option.some.inj e
    have := (h2 b hs).1; omega
theorem R1.next (h : R1 W0 M zs v d W) (hb : Below W.heap.size W W') : R0 W0 M d W' :=
  R0.next ⟨h.low, fun u hu => by obtain ⟨S, h1, h2⟩ := h.don u hu; exact ⟨S, h1, fun b hs => (h2 b hs).1⟩⟩ hb
theorem R0.items (h : R0 W0 M (some u) W) : Items W W.heap.size u M := by
  obtain ⟨S, h1, _⟩ := h.don u rfl
  exact items_row.1 h1.row
theorem R1.form (h : R1 W0 M zs v d W) : ∃ A c, v = .slice A zs.length c := by
  rcases h.sh.form with ⟨rfl, rfl⟩ | ⟨g, cap, rfl, _⟩
  · exact ⟨_, _, rfl⟩
  · exact ⟨_, _, rfl⟩
end
theorem sto_swap {its : List Item} {a b : List Wr} (h : stoB its = true) (ha : ∀ x ∈ a, x.ok = true) (hb : ∀ x ∈ b, x.ok = true) (hl : its.length + a.length + b.length ≤ 40) (hd : ∀ x ∈ a, ∀ y ∈ b, x.key ≠ y.key) : stoDo (stoDo its a) b = stoDo (stoDo its b) a := by
  obtain ⟨a1, a2, a3⟩ := stoDo_some h ha (by omega)
  obtain ⟨b1, b2, b3⟩ := stoDo_some h hb (by omega)
  obtain ⟨c1, -, c3⟩ := stoDo_some a1 hb (by omega)
  obtain ⟨d1, -, d3⟩ := stoDo_some b1 ha (by omega)
  refine sto_ext (stoB_three c1).2.2 (stoB_three d1).2.2 fun key => ?_
  rw [c3, a3, d3, b3]
  by_cases hk : ∃ x ∈ a, x.key = key
  · obtain ⟨x, hx, rfl⟩ := hk
    have hf : ∀ y ∈ b, y.key ≠ x.key := fun y hy e => hd x hx y hy e.symm
    rw [lookW_free hf, lookW_free hf]
  · have hf : ∀ x ∈ a, x.key ≠ key := fun x hx e => hk ⟨x, hx, e⟩
    rw [lookW_free hf, lookW_free hf]

end Go.Proofs.Ytkamlibfcakblaa

/- What the committed writes come to: the store is always one, and only those who are ready and those who are so count. -/
namespace Go.Proofs.Ytkamlibfcakblaa

theorem stepSto {o : Option (List Item)} {x : Wr} (h : ∀ cur, o = some cur → stoB cur = true) : ∀ cur, doStep o x = some cur → stoB cur = true := by
  intro cur hc
  cases o with
  | none => cases hc
  | some its =>
    obtain ⟨h1, h2, h3⟩ := stoB_three (h its rfl)
    simp only [doStep, Option.bind_some] at hc
    by_cases hx : x.ok = true
    · rw [if_pos hx] at hc
      by_cases hl : 40 < (wAll x.key x.del x.val its).length
      · rw [if_pos hl] at hc; cases hc
      · rw [if_neg hl] at hc
        injection hc with hc
        subst hc
        obtain ⟨f1, -, -, f4⟩ := wAll_facts (wk := x.key) (wv := x.val) h3 x.del
        refine stoB_of (by omega) (fun it hit => ?_) f1
        rcases f4 it hit with h' | ⟨hd, rfl⟩
        · exact h2 it h'
        · exact Wr.item hx hd
    · rw [if_neg hx] at hc; cases hc
theorem foldSto : ∀ (ws : List Wr) {o : Option (List Item)}, (∀ cur, o = some cur → stoB cur = true) → ∀ cur, ws.foldl doStep o = some cur → stoB cur = true
  | [], _, h => h
  | x :: ws, _, h => foldSto ws (stepSto (x := x) h)
theorem stoDo_stoB (its : List Item) (ws : List Wr) : stoB (stoDo its ws) = true := by
  unfold stoDo doAll
  split
  · rename_i h
    cases hc : ws.foldl doStep (some its) with
    | none => exact stoB_empty
    | some cur => exact foldSto ws (fun c hc' => by injection hc' with e; rw [← e]; exact h) cur hc
  · exact stoB_empty
theorem foldN_sto (ns : List Note) : stoB (foldN ns) = true := by
  have h : ∀ (ys : List Note) (st : List Note × List Item), stoB st.2 = true → stoB (ys.foldl stepF st).2 = true := by
    intro ys
    induction ys with
    | nil => intro st h; exact h
    | cons y ys ih =>
      intro st h
      refine ih (stepF st y) ?_
      show stoB (if y.kind = 2 then stoDo st.2 (comW st.1 y.tx) else st.2) = true
      split
      · exact stoDo_stoB _ _
      · exact h
  exact h ns ([], []) stoB_empty
theorem foldD_sto (x : Disk) : stoB (foldD x) = true := by
  unfold foldD; split
  · exact foldN_sto _
  · exact stoB_empty
/-- The notes that count. -/
def countsB (n : Note) : Bool := decide (n.kind = 1) || decide (n.kind = 2)
theorem readyN_counts (ns : List Note) (tx : Int) : readyN (ns.filter countsB) tx = readyN ns tx := by
  unfold readyN
  rw [← List.filter_reverse, List.find?_filter]
  congr 1
  funext a
  unfold countsB rdyB
  cases h : decide (a.kind = 1) <;> simp
theorem foldN_counts (ns : List Note) : foldN (ns.filter countsB) = foldN ns := by
  have h : ∀ (ys : List Note) (p q : List Note) (s : List Item), (∀ tx, readyN p tx = readyN q tx) → ((ys.filter countsB).foldl stepF (p, s)).2 = (ys.foldl stepF (q, s)).2 := by
    intro ys
    induction ys with
    | nil => intro p q s _; rfl
    | cons y ys ih =>
      intro p q s hpq
      have hc : ∀ tx, comW p tx = comW q tx := fun tx => by unfold comW; rw [hpq]
      by_cases hy : countsB y = true
      · rw [List.filter_cons_of_pos hy, List.foldl_cons, List.foldl_cons]
        show ((ys.filter countsB).foldl stepF (p ++ [y], if y.kind = 2 then stoDo s (comW p y.tx) else s)).2 = (ys.foldl stepF (q ++ [y], if y.kind = 2 then stoDo s (comW q y.tx) else s)).2
        rw [hc]
        exact ih _ _ _ (fun tx => by rw [readyN_snoc, readyN_snoc, hpq])
      · rw [List.filter_cons_of_neg hy, List.foldl_cons]
        have h1 : y.kind ≠ 1 ∧ y.kind ≠ 2 := by unfold countsB at hy; simpa using hy
        show ((ys.filter countsB).foldl stepF (p, s)).2 = (ys.foldl stepF (q ++ [y], if y.kind = 2 then stoDo s (comW q y.tx) else s)).2
        rw [if_neg h1.2]
        exact ih _ _ _ (fun tx => by rw [readyN_snoc, rdyB_no (.inl h1.1), if_neg (by simp), hpq])
  exact h ns [] [] [] (fun _ => rfl)

end Go.Proofs.Ytkamlibfcakblaa
