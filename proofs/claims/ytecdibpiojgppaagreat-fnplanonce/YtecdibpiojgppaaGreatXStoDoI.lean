/- Texts that follow each other, merged: StoDoI, GloWrite, GloPlan. -/
import Derived.Test.YtecdibpiojgppaaGreatXCopyI
import Derived.Test.YtecdibpiojgppaaGreatXStoDoS
import Derived.Test.YtecdibpiojgppaaGreatXShal
import Derived.Defers

/- The program's StoDo. -/
namespace Go.Proofs.YtecdibpiojgppaaGreat
open Go.RowKit

/-- A store of its own, as a record. -/
def StoMade (its : List Item) (w : World) (e : Ending) (w' : World) : Prop :=
  ∃ u, e = .returned (.agg #[u]) ∧ itSh.Own 95 w' (fun b => w.heap.size ≤ b ∧ b < w'.heap.size) u its ∧ Below w.heap.size w w'
set_option maxRecDepth 100000 in
set_option maxHeartbeats 2000000 in
theorem implStoDo_any (w : World) (v lv : Value) (its : List Item) (ws : List Wr) (hv : Items w w.heap.size v its) (hw : Wrts w w.heap.size lv ws) :
    Calls Tryz.prog 17 #[.agg #[v], lv] w (StoMade (stoDo its ws) w) := by
  obtain ⟨A, c, rfl, hc2, hc1⟩ := hv.form
  obtain ⟨A2, c2, rfl, hd2, hd1⟩ := hw.form
  unfold maxLen at hc2 hd2
  have HB := Lib.hid (belowTwo w (.cells #[.slice A its.length c] 35) (.cells #[.slice none 0 0] 35))
  have HX := Lib.hid ((Held.new w #[.slice A its.length c] 35).after (.cells #[.slice none 0 0] 35))
  have HR := Lib.hid (show Held ((w.alloc (.cells #[.slice A its.length c] 35)).alloc (.cells #[.slice none 0 0] 35)) (w.heap.size + 1) [.slice none 0 0] from by have h := Held.new (w.alloc (.cells #[.slice A its.length c] 35)) #[.slice none 0 0] 35; rwa [allocSize] at h)
  have HV := Lib.hid hv
  have HW := Lib.hid hw
  clear hv hw
  go_enter Tryz.func17, Tryz.ntmps17
  go_wp2_with fail
  refine (implStoOk_any _ _ _ ((HV.out.below HB.out).more HB.out.size)).mono ?_
  rintro e w1 ⟨rfl, hb1⟩
  have HB1 := Lib.hid (belowNext HB.out hb1)
  have HX1 := Lib.hid (HX.out.below hb1 HX.out.1)
  have HR1 := Lib.hid (HR.out.below hb1 HR.out.1)
  clear hb1 HB HX HR
  cases hs : stoB its with
  | false =>
    have HE := Lib.hid (doNot ws hs)
    clear hs
    have r0 := HR1.out.of 0 _ rfl
    have rf := HR1.out.2.1
    go_wp2
    have HR2 := HR1.out.set_ (i := 0) (.slice none 0 0)
    have q0 := HR2.of 0 _ rfl
    refine bodyPost_ret (v := .agg #[.slice none 0 0]) (by simp only [results, Tryz.results17, go_sem]; simp [go_sem, q0]) rfl ⟨_, rfl, by rw [HE.out]; exact Sh.Own.nil _ _, HB1.out.setCell (by show w.heap.size ≤ w.heap.size + 1; omega) _⟩
  | true =>
    go_wp2_with fail
    refine (writesOk_any _ _ ws (wrts_row.1 ((wrts_row.2 (HW.out.below HB1.out)).more HB1.out.size))).mono ?_
    rintro e w2 ⟨rfl, hb2⟩
    have HB2 := Lib.hid (belowNext HB1.out hb2)
    have HX2 := Lib.hid (HX1.out.below hb2 HX1.out.1)
    have HR2 := Lib.hid (HR1.out.below hb2 HR1.out.1)
    clear hb2 HB1 HX1 HR1
    have r0 := HR2.out.of 0 _ rfl
    have rf := HR2.out.2.1
    cases hok : ws.all Wr.ok with
    | false =>
      have HE : Hid (stoDo its ws = []) := Lib.hid (by
        obtain ⟨x, hx, hxo⟩ := List.all_eq_false.1 hok
        obtain ⟨j, hj, rfl⟩ := List.getElem_of_mem hx
        exact doneBad (List.getElem?_eq_getElem hj) (by simpa using hxo))
      clear hs hok
      go_wp2
      have HR3 := HR2.out.set_ (i := 0) (.slice none 0 0)
      have q0 := HR3.of 0 _ rfl
      refine bodyPost_ret (v := .agg #[.slice none 0 0]) (by simp only [results, Tryz.results17, go_sem]; simp [go_sem, q0]) rfl ⟨_, rfl, by rw [HE.out]; exact Sh.Own.nil _ _, HB2.out.setCell (by show w.heap.size ≤ w.heap.size + 1; omega) _⟩
    | true =>
      have HS := Lib.hid hs
      have HOk := Lib.hid fun x hx => List.all_eq_true.1 hok x hx
      have HFi := Lib.hid (stoB_fine hs)
      have h40 := (stoB_fine hs).1
      clear hs hok
      have x0 := HX2.out.of 0 _ rfl
      have hz2 : w.heap.size + 1 < w2.heap.size := HR2.out.1
      go_wp2_with fail
      refine (copyItems_any _ _ its ((HV.out.below HB2.out).more HB2.out.size) (by omega) HFi.out.2.short).mono ?_
      rintro e w3 ⟨u3, rfl, ho3, hb3⟩
      obtain ⟨A3, c3, hf3, -, -⟩ := ho3.row.form
      subst hf3
      have HO3 := Lib.hid ho3
      have HB3 := Lib.hid hb3
      clear ho3 hb3 x0 r0 rf
      go_wp2
      go_loopw [5, 22] (fun l i wr => ∃ (k : Nat) (cur : List Item) (Al : Option Addr) (cl : Nat), k ≤ ws.length ∧ i = .int .i64 k ∧ l = .slice Al cur.length cl ∧ (ws.take k).foldl doStep (some its) = some cur ∧ Rise cur cur.length ∧ cur.length ≤ 40 ∧ itSh.Own 95 wr (fun b => w2.heap.size ≤ b ∧ b < wr.heap.size) (.slice Al cur.length cl) cur ∧ Below w2.heap.size w2 wr) (fun _ i _ => ws.length - (intOf i).toNat)
      case atStart => exact ⟨0, its, A3, c3, Nat.zero_le _, rfl, rfl, rfl, stoB_rise HS.out, h40, HO3.out, HB3.out⟩
      case round =>
        clear HO3 HB3
        obtain ⟨k, cur, Al, cl, hk, rfl, rfl, hcur, hri, hc40, ho, hb⟩ := hrel
        have HRr := Lib.hid (HR2.out.below hb hz2)
        have HBr := Lib.hid (HB2.out.trans (hb.mono (by omega)))
        have hzr := hb.size
        by_cases hlt : k < ws.length
        · obtain ⟨b, off, c', x, u, e1, hx, hB, hs, d0, d1, d2, hu⟩ := (HW.out.below HBr.out).at_ (k := k) hlt
          obtain ⟨A', c'', hu', hu2, hu3⟩ := hu.form
          subst hu'
          injection e1 with e1a e1b e1c
          subst e1a
          have hxo := HOk.out x (List.mem_of_getElem? hx)
          have hxf := Wr.fine hxo
          have HXo := Lib.hid hxo
          obtain ⟨key, del, val⟩ := x
          simp only at hs d0 d1 d2 hu hu2 hu3 hxf
          obtain ⟨f1, -, f3, -⟩ := wAll_facts (wk := key) (wv := val) hri del
          have hlen : (wAll key del val cur).length ≤ 41 := by
            have : (if del = true then 0 else 1) ≤ 1 := by split <;> omega
            omega
          have HT := Lib.hid (Held.new wr #[.string key, .bool del, .slice A' val.length c''] 77)
          have HF1 := Lib.hid f1
          have HCur := Lib.hid hcur
          have HRi := Lib.hid hri
          have HX := Lib.hid hx
          have HO := Lib.hid (ho.below (belowOne wr (.cells #[.string key, .bool del, .slice A' val.length c''] 77)))
          have HB := Lib.hid (hb.alloc hb.size (.cells #[.string key, .bool del, .slice A' val.length c''] 77))
          have HU := Lib.hid (show Ints ((wr.alloc (.cells #[.string key, .bool del, .slice A' val.length c''] 77)).drew) w.heap.size _ val from hu.alloc HBr.out.size (.cells #[.string key, .bool del, .slice A' val.length c''] 77))
          clear e1b e1c hu hx hcur hri hb ho f1 f3 hxo
          cases del with
          | true =>
            have t0 := HT.out.of 0 _ rfl
            have t1 := HT.out.of 1 _ rfl
            go_wp2_with fail
            refine (drop_any _ _ _ cur HO.out (by omega) HRi.out key val).mono ?_
            rintro e w5 ⟨v5, rfl, ho5, hg5⟩
            obtain ⟨A5, c5, hf5, -, -⟩ := ho5.row.form
            subst hf5
            have HO5 := Lib.hid (Sh.Own.mono (S' := fun b => w2.heap.size ≤ b ∧ b < w5.heap.size) ho5.cap (fun b hb => ⟨by rcases hb.1 with h | h; exact h.1; rw [allocSize] at h; omega, hb.2⟩))
            have HB5 := Lib.hid (HB.out.grown hg5 (by rw [allocSize]; omega) (fun q hq => (HO.out.blk q hq).1))
            clear ho5 hg5 t0 t1
            have HR5 := Lib.hid (HR2.out.below HB5.out hz2)
            have HBw := Lib.hid (HB2.out.trans (HB5.out.mono (by omega)))
            have r0 := HR5.out.of 0 _ rfl
            have rf := HR5.out.2.1
            by_cases h41 : 40 < (wAll key true val cur).length
            · have HE := Lib.hid (doBad HS.out HX.out HCur.out (.inr h41))
              have h41' : (40 : Int) < ((wAll key true val cur).length : Int) := by omega
              go_wp2
              have HR6 := HR5.out.set_ (i := 0) (.slice none 0 0)
              have q0 := HR6.of 0 _ rfl
              refine bodyPost_ret (v := .agg #[.slice none 0 0]) (by simp only [results, Tryz.results17, go_sem]; simp [go_sem, q0]) rfl ⟨_, rfl, by rw [HE.out]; exact Sh.Own.nil _ _, HBw.out.setCell (by show w.heap.size ≤ w.heap.size + 1; omega) _⟩
            · have HN := Lib.hid (doGood HX.out HCur.out HXo.out h41)
              have h41' : ((wAll key true val cur).length : Int) ≤ 40 := by omega
              go_wp2
              go_roundw
              case rel => exact ⟨k + 1, _, A5, c5, by omega, by go_num, rfl, HN.out, HF1.out, by omega, HO5.out, HB5.out⟩
              case measure => simp [intOf]; omega
          | false =>
            have k0 := And.intro (HT.out.of 0 _ rfl) (HT.out.of 2 _ rfl)
            have t1 := HT.out.of 1 _ rfl
            go_wp2
            clear t1
            refine wp_region_held_drew (S := (fun w' => w'.cell? ⟨wr.heap.size, 0, none⟩ = some (.string key) ∧ w'.cell? ⟨wr.heap.size, 2, none⟩ = some (.slice A' val.length c''))) (by kernel_rfl) ?hSq (fun hHeldq => ?stq)
            case hSq => (first | (dsimp only; (first | with_reducible exact k2 | with_reducible exact k1 | exact k0)) | (first | with_reducible exact k2 | with_reducible exact k1 | exact k0))
            refine take_first 0 32 (v := ?vq_1) rfl rfl (by kernel_rfl) (by kernel_rfl) (by kernel_rfl) (fun _ _ _ h => h) (by rfl) ?yq_1 (by assumption) ?rq_1
            case yq_1 => (intro w hSw; (try dsimp only at hSw); go_simp; (try with_reducible rfl))
            simp only [Act.put, List.setIfInBounds_toArray, List.set_cons_zero, List.set_cons_succ]
            refine take_first 1 33 (v := ?vq_2) rfl rfl (by kernel_rfl) (by kernel_rfl) (by kernel_rfl) (fun _ _ _ h => h) (by rfl) ?yq_2 (by assumption) ?rq_2
            case yq_2 => (intro w hSw; (try dsimp only at hSw); go_simp; (try with_reducible rfl))
            simp only [Act.put, List.setIfInBounds_toArray, List.set_cons_zero, List.set_cons_succ]
            refine take_first 2 34 (v := ?vq_3) rfl rfl (by kernel_rfl) (by kernel_rfl) (by kernel_rfl) (fun _ _ _ h => h) (by rfl) ?yq_3 (by assumption) ?rq_3
            case yq_3 => (intro w hSw; (try dsimp only at hSw); go_simp; (try with_reducible rfl))
            simp only [Act.put, List.setIfInBounds_toArray, List.set_cons_zero, List.set_cons_succ]
            refine take_first 3 35 (v := ?vq_4) rfl rfl (by kernel_rfl) (by kernel_rfl) (by kernel_rfl) (fun _ _ _ h => h) (by rfl) ?yq_4 (by assumption) ?rq_4
            case yq_4 => (intro w hSw; (try dsimp only at hSw); go_simp; (try with_reducible rfl))
            simp only [Act.put, List.setIfInBounds_toArray, List.set_cons_zero, List.set_cons_succ]
            refine take_first 4 36 (v := ?vq_5) rfl rfl (by kernel_rfl) (by kernel_rfl) (by kernel_rfl) (fun _ _ _ h => h) (by rfl) ?yq_5 (by assumption) ?rq_5
            case yq_5 => (intro w hSw; (try dsimp only at hSw); go_simp; (try with_reducible rfl))
            simp only [Act.put, List.setIfInBounds_toArray, List.set_cons_zero, List.set_cons_succ]
            refine wpAnyH_ready (rs := [5]) (by kernel_rfl) (by simp) ?_
            refine AllReadyH.cons (o := _) rfl (fun Kq_6 hKq_6 => ?cq_6) ?mq_6
            case mq_6 => exact AllReadyH.nil
            go_simp
            refine (clone_sh _ _ val (HU.out.more (by show _ ≤ (World.alloc _ _).heap.size; rw [allocSize]; omega)) (by omega)).mono ?_; rintro e w4 ⟨u4, rfl, hu4, hb4⟩; obtain ⟨A4, c4, hf4, -, -⟩ := hu4.row.form; subst hf4; have HT4 := Lib.hid (HT.out.onward hb4 rfl); have k1 := And.intro (HT4.out.of 0 _ rfl) (HT4.out.of 2 _ rfl); have HO4 := Lib.hid (Sh.Own.below (w := (wr.alloc (.cells #[.string key, .bool false, .slice A' val.length c''] 77)).drew) HO.out hb4); have hz4 : wr.heap.size < w4.heap.size := HT4.out.1; have HB4 := Lib.hid (HB.out.drew.trans (hb4.mono (by show _ ≤ (World.alloc _ _).heap.size; rw [allocSize]; omega))); have HU4 := Lib.hid (Sh.Own.mono (S' := fun b => wr.heap.size < b ∧ b < w4.heap.size) hu4 (fun b hb => ⟨by have h := hb.1; have h2 : (wr.alloc (.cells #[.string key, .bool false, .slice A' val.length c''] 77)).drew.heap.size = wr.heap.size + 1 := allocSize _ _; omega, hb.2⟩)); clear hu4 hb4
            go_wp2_with fail
            refine hKq_6.out _ _ ?kq_6 (fun hHeldq_6 => ?dq_6)
            case kq_6 => (first | (dsimp only; (first | with_reducible exact k2 | with_reducible exact k1 | exact k0)) | (first | with_reducible exact k2 | with_reducible exact k1 | exact k0))
            clear hKq_6 Kq_6
            refine take_first 6 38 (v := ?vq_7) rfl rfl (by kernel_rfl) (by kernel_rfl) (by kernel_rfl) (fun _ _ _ h => h) (by rfl) ?yq_7 (by assumption) ?rq_7
            case yq_7 => (intro w hSw; (try dsimp only at hSw); go_simp; (try with_reducible rfl))
            simp only [Act.put, List.setIfInBounds_toArray, List.set_cons_zero, List.set_cons_succ]
            refine wpAnyH_ready (rs := [7]) (by kernel_rfl) (by simp) ?_
            refine AllReadyH.cons (o := _) rfl (fun Kq_8 hKq_8 => ?cq_8) ?mq_8
            case mq_8 => exact AllReadyH.nil
            go_simp
            refine (put_any _ _ _ _ cur HO4.out (by omega) HRi.out ⟨key, val⟩ _ (it_own.2 ⟨_, rfl, hs, HU4.out⟩) (fun b hb => by have := hb.2; omega) (fun b hb hb2 => by have := hb.2; have := hb2.1; omega)).mono ?_; rintro e w5 ⟨v5, rfl, ho5, hg5⟩; obtain ⟨A5, c5, hf5, -, -⟩ := ho5.row.form; subst hf5; have HT5 := Lib.hid (HT4.out.outs (Outs.of_grown (S := fun b => w2.heap.size ≤ b ∧ b < wr.heap.size) hg5 (HO4.out.blk)) (fun h => by have := h.2; omega)); have k2 := And.intro (HT5.out.of 0 _ rfl) (HT5.out.of 2 _ rfl); have HP5 := Lib.hid ho5; have HG5 := Lib.hid hg5; clear ho5 hg5
            go_wp2_with fail
            refine hKq_8.out _ _ ?kq_8 (fun hHeldq_8 => ?dq_8)
            case kq_8 => (first | (dsimp only; (first | with_reducible exact k2 | with_reducible exact k1 | exact k0)) | (first | with_reducible exact k2 | with_reducible exact k1 | exact k0))
            clear hKq_8 Kq_8
            refine take_first 8 5 (v := ?vq_9) rfl rfl (by kernel_rfl) (by kernel_rfl) (by kernel_rfl) (fun _ _ _ h => h) (by rfl) ?yq_9 (by assumption) ?rq_9
            case yq_9 => (intro w hSw; (try dsimp only at hSw); go_simp; (try with_reducible rfl))
            simp only [Act.put, List.setIfInBounds_toArray, List.set_cons_zero, List.set_cons_succ]
            refine wpAnyH_done (by kernel_rfl) ?eq _
            have HO5 := Lib.hid (Sh.Own.mono (S' := fun b => w2.heap.size ≤ b ∧ b < w5.heap.size) HP5.out.cap (fun b hb => ⟨by rcases hb.1 with (h | h) | h; exact h.1; have := h.1; omega; omega, hb.2⟩))
            have HB5 := Lib.hid (HB4.out.grown HG5.out (by omega) (fun q hq => (HO4.out.blk q hq).1))
            clear k0 k1 k2 HT HT4 HT5 HP5 HG5
            have HR5 := Lib.hid (HR2.out.below HB5.out hz2)
            have HBw := Lib.hid (HB2.out.trans (HB5.out.mono (by omega)))
            have r0 := HR5.out.of 0 _ rfl
            have rf := HR5.out.2.1
            by_cases h41 : 40 < (wAll key false val cur).length
            · have HE := Lib.hid (doBad HS.out HX.out HCur.out (.inr h41))
              have h41' : (40 : Int) < ((wAll key false val cur).length : Int) := by omega
              go_wp2
              have HR6 := HR5.out.set_ (i := 0) (.slice none 0 0)
              have q0 := HR6.of 0 _ rfl
              refine bodyPost_ret (v := .agg #[.slice none 0 0]) (by simp only [results, Tryz.results17, go_sem]; simp [go_sem, q0]) rfl ⟨_, rfl, by rw [HE.out]; exact Sh.Own.nil _ _, HBw.out.setCell (by show w.heap.size ≤ w.heap.size + 1; omega) _⟩
            · have HN := Lib.hid (doGood HX.out HCur.out HXo.out h41)
              have h41' : ((wAll key false val cur).length : Int) ≤ 40 := by omega
              go_wp2
              go_roundw
              case rel => exact ⟨k + 1, _, A5, c5, by omega, by go_num, rfl, HN.out, HF1.out, by omega, HO5.out, HB5.out⟩
              case measure => simp [intOf]; omega
        · have HE := Lib.hid (doEnd HS.out ((show k = ws.length by omega) ▸ hcur))
          have HO := Lib.hid ho
          have r0 := HRr.out.of 0 _ rfl
          have rf := HRr.out.2.1
          clear hcur ho hb hri
          go_wp2
          have HR4 := HRr.out.set_ (i := 0) (.slice Al cur.length cl)
          have q0 := HR4.of 0 _ rfl
          refine bodyPost_ret (v := .agg #[.slice Al cur.length cl]) (by simp only [results, Tryz.results17, go_sem]; simp [go_sem, q0]) rfl ⟨_, rfl, ?_, HBr.out.setCell (by show w.heap.size ≤ w.heap.size + 1; omega) _⟩
          rw [HE.out]
          exact (HO.out.keep fun b hb' _ => Below.heap_setCell _ _ _ _ (by show b ≠ w.heap.size + 1; have := hb'.1; omega)).mono fun b hb' => ⟨by have := hb'.1; omega, by simpa [World.setCell] using hb'.2⟩

end Go.Proofs.YtecdibpiojgppaaGreat

/- What waits, and how the program writes it. -/
namespace Go.Proofs.YtecdibpiojgppaaGreat
open Go.RowKit

/-- What a place will write. -/
structure Pend where
  place : Int
  writes : List Wr
def pendSh : Sh Pend := (Sh.int.pair wrsSh).conv (fun x => (x.place, x.writes)) (fun p => ⟨p.1, p.2⟩) rfl
section
variable {w : World} {B : Nat} {S : Nat → Prop} {v : Value}
theorem pend_rel {cs : List Value} {x : Pend} : pendSh.rel w B cs x ↔ ∃ u, cs = [.int .i64 x.place, u] ∧ wrSh.Row w B u x.writes := by
  constructor
  · rintro ⟨c1, c2, rfl, h1, u, rfl, h3⟩
    have h1' : c1 = [.int .i64 x.place] := h1
    subst h1'
    exact ⟨u, rfl, h3⟩
  · rintro ⟨u, rfl, h3⟩
    exact ⟨_, _, rfl, rfl, u, rfl, h3⟩
theorem pend_own {cs : List Value} {x : Pend} : pendSh.own w S cs x ↔ ∃ u, cs = [.int .i64 x.place, u] ∧ wrSh.Own 77 w S u x.writes := by
  constructor
  · rintro ⟨c1, c2, S1, S2, rfl, h1, ⟨u, rfl, h3⟩, -, s2, -⟩
    have h1' : c1 = [.int .i64 x.place] := h1
    subst h1'
    exact ⟨u, rfl, h3.mono s2⟩
  · rintro ⟨u, rfl, h3⟩
    exact ⟨_, _, fun _ => False, S, rfl, rfl, ⟨u, rfl, h3⟩, fun _ h => h.elim, fun _ h => h, fun _ h _ => h⟩
end
/-- What writing all that waits does to what some places keep. -/
def putP (xs : List Sto) (p : Pend) : List Sto := xs.set (p.place - 1).toNat ⟨stoDo ((xs[(p.place - 1).toNat]?).elim [] (·.items)) p.writes⟩
theorem putP_len (xs : List Sto) (p : Pend) : (putP xs p).length = xs.length := by unfold putP; rw [List.length_set]

/-- What holds while all that waits is written. -/
structure PutI (w : World) (p : Nat) (us uw : Value) (ps : List Pend) (S1 S2 : Nat → Prop) (W : World) (ys : List Sto) : Prop where
  held : Held W p [us, uw]
  own : stoSh.Own 35 W (fun b => S1 b ∨ w.heap.size ≤ b) us ys
  pend : pendSh.Own 113 W (fun b => S2 b ∧ b < w.heap.size) uw ps
  out : Outs S1 w W
section
variable {w W W' : World} {p : Nat} {us uw : Value} {ps : List Pend} {S1 S2 : Nat → Prop} {ys : List Sto}
theorem PutI.next (h : PutI w p us uw ps S1 S2 W ys) (hb : Below W.heap.size W W') : PutI w p us uw ps S1 S2 W' ys :=
  ⟨h.held.below hb h.held.1, h.own.below hb, h.pend.below hb, h.out.trans (Outs.of_below hb)⟩
theorem PutI.step (h : PutI w p us uw ps S1 S2 W ys) (hd : ∀ b, S1 b → ¬ S2 b) (hp1 : ¬ S1 p) (hpw : p < w.heap.size) (hb : Below W.heap.size W W') {i g cap : Nat} (hi : i < ys.length) (hv : us = .slice (some ⟨g, 0, none⟩) ys.length cap) (hSg : S1 g ∨ w.heap.size ≤ g) {u : Value} {its : List Item} (ho : itSh.Own 95 W' (fun b => W.heap.size ≤ b ∧ b < W'.heap.size) u its) :
    PutI w p us uw ps S1 S2 (W'.setCell ⟨g, i, none⟩ u) (ys.set i ⟨its⟩) := by
  have hgp : p ≠ g := fun e => by subst e; rcases hSg with h' | h'; exact hp1 h'; omega
  have hz := h.out.size
  have hn := h.next hb
  refine ⟨hn.held.farS (p := ⟨g, i, none⟩) hgp u, ?_, hn.pend.keep fun b h1 _ => Below.heap_setCell _ _ _ _ ?_, ?_⟩
  · have h1 := h.own.cap.put hi hv (fun b _ hlt => hb.block b hlt) (sto_own.2 ⟨u, rfl, ho⟩) (fun b h1 h2 => by omega)
    have e1 : i * stoSh.wd = i := Nat.mul_one _
    rw [e1] at h1
    exact h1.mono fun b hb => by rcases hb with hb | hb; exact hb.1; right; omega
  · intro e
    have e' : b = g := e
    subst e'
    rcases hSg with h' | h'
    · exact hd _ h' h1.1
    · omega
  · have h2 : Outs (fun b => S1 b ∨ w.heap.size ≤ b) w W' := hn.out.mono fun _ _ h => .inl h
    exact (h2.trans (Outs.of_set W' ⟨g, i, none⟩ u hSg)).mono fun b hb h => h.resolve_right (by omega)
theorem putP_eq {x : Pend} {i : Nat} {y : Sto} (hi : x.place = (i : Int) + 1) (hy : ys[i]? = some y) : putP ys x = ys.set i ⟨stoDo y.items x.writes⟩ := by
  unfold putP
  have : (x.place - 1).toNat = i := by omega
  rw [this, hy]; rfl
end

set_option maxRecDepth 100000 in
set_option maxHeartbeats 4000000 in
theorem write_any (w : World) (p : Nat) (us uw : Value) (xs : List Sto) (ps : List Pend) (S1 S2 : Nat → Prop) (hp : Held w p [us, uw]) (hus : stoSh.Own 35 w S1 us xs) (huw : pendSh.Own 113 w S2 uw ps) (hd : ∀ b, S1 b → ¬ S2 b) (hp1 : ¬ S1 p) (hok : ∀ x ∈ ps, 1 ≤ x.place ∧ x.place ≤ xs.length) (hl : xs.length ≤ 1048576) :
    Calls Tryz.prog 39 #[.pointer (some ⟨p, 0, none⟩)] w fun e w' => e = .returned (.tuple #[]) ∧ Held w' p [us, uw] ∧ stoSh.Own 35 w' (fun b => S1 b ∨ w.heap.size ≤ b) us (ps.foldl putP xs) ∧ Outs S1 w w' := by
  obtain ⟨A, c, rfl, hc2, hc1⟩ := huw.row.form
  unfold maxLen at hc2
  have HP := Lib.hid (show PutI w p us (.slice A ps.length c) ps S1 S2 w xs from ⟨hp, hus.mono fun b h => .inl h, huw.cap, Outs.refl _ _⟩)
  have p0 := hp.of 0 _ rfl
  have p1 := hp.of 1 _ rfl
  have HOk := Lib.hid hok
  have hpw : p < w.heap.size := hp.1
  clear hp hus huw hok
  go_enter Tryz.func39, Tryz.ntmps39
  go_wp2
  clear p0 p1
  go_loopw [10] (fun i wr => ∃ (k : Nat) (ys : List Sto), k ≤ ps.length ∧ i = .int .i64 k ∧ ys = (ps.take k).foldl putP xs ∧ ys.length = xs.length ∧ PutI w p us (.slice A ps.length c) ps S1 S2 wr ys) (fun i _ => ps.length - (intOf i).toNat)
  case atStart => exact ⟨0, xs, Nat.zero_le _, rfl, rfl, rfl, HP.out⟩
  case round =>
    clear HP
    obtain ⟨k, ys, hk, rfl, hys, hyl, hP⟩ := hrel
    by_cases hlt : k < ps.length
    · obtain ⟨b, off, c', x, cs, e1, hx, hB, hr, hcell⟩ := hP.pend.row.at_ (k := k) hlt
      obtain ⟨ux, rfl, hux⟩ := pend_rel.1 hr
      obtain ⟨Ax, cx, rfl, -, -⟩ := hux.form
      injection e1 with e1a e1b e1c
      subst e1a
      obtain ⟨hp1', hp2'⟩ := HOk.out x (List.mem_of_getElem? hx)
      have d0 : wr.cell? ⟨b, off + k * 2, none⟩ = some (.int .i64 x.place) := hcell 0 _ rfl
      have d1 : wr.cell? ⟨b, off + k * 2 + 1, none⟩ = some _ := hcell 1 _ rfl
      obtain ⟨i, hi⟩ : ∃ i : Nat, x.place = (i : Int) + 1 := ⟨(x.place - 1).toNat, by omega⟩
      have hiy : i < ys.length := by omega
      obtain ⟨g, cap, y, cy, Sj, e2, hy, hSg, hgw, hoy, hSj, hcy, hfr, -, -⟩ := hP.own.at_ (j := i) hiy
      obtain ⟨uy, rfl, huy⟩ := sto_own.1 hoy
      obtain ⟨Ay, cyc, rfl, -, -⟩ := huy.row.form
      subst e2
      have g0 : wr.cell? ⟨g, i, none⟩ = some (.slice Ay y.items.length cyc) := by
        have h := hcy 0 _ rfl
        rwa [show i * stoSh.wd + 0 = i from Nat.mul_one _] at h
      have HPI := Lib.hid hP
      have KI := Lib.hid fun V (h : Below wr.heap.size wr V) => ((items_row.1 huy.row).below h).more h.size
      have KX := Lib.hid fun V (h : Below wr.heap.size wr V) => wrts_row.1 ((hux.below h).more h.size)
      have KC := Lib.hid fun V (h : Below wr.heap.size wr V) => And.intro ((hP.held.below h hP.held.1).of 0 _ rfl) ((h.cell (p := ⟨g, i, none⟩) hgw).trans g0)
      have HNa := Lib.hid (show Below wr.heap.size wr (wr.alloc (.cells #[.int .i64 x.place, .slice Ax x.writes.length cx] 113)).drew from (belowOne wr (.cells #[.int .i64 x.place, .slice Ax x.writes.length cx] 113)).drew)
      have HHx := Lib.hid (show Held (wr.alloc (.cells #[.int .i64 x.place, .slice Ax x.writes.length cx] 113)).drew wr.heap.size [.int .i64 x.place, .slice Ax x.writes.length cx] from Held.new wr #[.int .i64 x.place, .slice Ax x.writes.length cx] 113)
      have HX := Lib.hid hx
      have HYs := Lib.hid hys
      have HY := Lib.hid hy
      have HSg := Lib.hid hSg
      have hi' : x.place - 1 = (i : Int) := by omega
      have HI := Lib.hid hi
      have f1 : (0 : Int) ≤ (i : Int) := by omega
      have f2 : (i : Int) < (ys.length : Int) := by omega
      have HYl := Lib.hid hyl
      have HIy := Lib.hid hiy
      clear hyl hiy e1b e1c hr hux hcell hP hx hys hy hoy huy hcy hi hSg hSj hfr
      have k0 := And.intro (KC.out _ HNa.out).1 (And.intro (KC.out _ HNa.out).2 (HHx.out.of 1 _ rfl))
      have t0 := HHx.out.of 0 _ rfl
      go_wp2
      clear t0 g0 d0 d1
      refine region_l (S := (fun w' => w'.cell? ⟨p, 0, none⟩ = some (.slice (some ⟨g, 0, none⟩) ys.length cap) ∧ w'.cell? ⟨g, i, none⟩ = some (.slice Ay y.items.length cyc) ∧ w'.cell? ⟨wr.heap.size, 1, none⟩ = some (.slice Ax x.writes.length cx))) 16 (by kernel_rfl) ?hSr (fun hHeldr => ?str)
      case hSr => (first | (dsimp only; (first | with_reducible exact k1 | exact k0)) | (first | with_reducible exact k1 | exact k0))
      refine take_l 0 17 (v := ?vr_1) rfl rfl (by kernel_rfl) (by kernel_rfl) (by kernel_rfl) (by kernel_rfl) (fun _ _ _ h => h) (by rfl) ?yr_1 (by assumption) ?rr_1
      case yr_1 => (intro w hSw; (try dsimp only at hSw); go_simp; (try with_reducible rfl))
      simp only [Act.put, List.setIfInBounds_toArray, List.set_cons_zero, List.set_cons_succ]
      refine take_l 1 18 (v := ?vr_2) rfl rfl (by kernel_rfl) (by kernel_rfl) (by kernel_rfl) (by kernel_rfl) (fun _ _ _ h => h) (by rfl) ?yr_2 (by assumption) ?rr_2
      case yr_2 => (intro w hSw; (try dsimp only at hSw); go_simp; (try with_reducible rfl))
      simp only [Act.put, List.setIfInBounds_toArray, List.set_cons_zero, List.set_cons_succ]
      refine take_l 2 19 (v := ?vr_3) rfl rfl (by kernel_rfl) (by kernel_rfl) (by kernel_rfl) (by kernel_rfl) (fun _ _ _ h => h) (by rfl) ?yr_3 (by assumption) ?rr_3
      case yr_3 => (intro w hSw; (try dsimp only at hSw); go_simp; (try with_reducible rfl))
      simp only [Act.put, List.setIfInBounds_toArray, List.set_cons_zero, List.set_cons_succ]
      refine take_l 3 20 (v := ?vr_4) rfl rfl (by kernel_rfl) (by kernel_rfl) (by kernel_rfl) (by kernel_rfl) (fun _ _ _ h => h) (by rfl) ?yr_4 (by assumption) ?rr_4
      case yr_4 => (intro w hSw; (try dsimp only at hSw); go_simp; (try with_reducible rfl))
      simp only [Act.put, List.setIfInBounds_toArray, List.set_cons_zero, List.set_cons_succ]
      refine take_l 4 21 (v := ?vr_5) rfl rfl (by kernel_rfl) (by kernel_rfl) (by kernel_rfl) (by kernel_rfl) (fun _ _ _ h => h) (by rfl) ?yr_5 (by assumption) ?rr_5
      case yr_5 => (intro w hSw; (try dsimp only at hSw); go_simp; (try with_reducible rfl))
      simp only [Act.put, List.setIfInBounds_toArray, List.set_cons_zero, List.set_cons_succ]
      refine take_l 5 22 (v := ?vr_6) rfl rfl (by kernel_rfl) (by kernel_rfl) (by kernel_rfl) (by kernel_rfl) (fun _ _ _ h => h) (by rfl) ?yr_6 (by assumption) ?rr_6
      case yr_6 => (intro w hSw; (try dsimp only at hSw); go_simp; (try with_reducible rfl))
      simp only [Act.put, List.setIfInBounds_toArray, List.set_cons_zero, List.set_cons_succ]
      refine take_l 6 23 (v := ?vr_7) rfl rfl (by kernel_rfl) (by kernel_rfl) (by kernel_rfl) (by kernel_rfl) (fun _ _ _ h => h) (by rfl) ?yr_7 (by assumption) ?rr_7
      case yr_7 => (intro w hSw; (try dsimp only at hSw); go_simp; (try with_reducible rfl))
      simp only [Act.put, List.setIfInBounds_toArray, List.set_cons_zero, List.set_cons_succ]
      refine take_l 7 24 (v := ?vr_8) rfl rfl (by kernel_rfl) (by kernel_rfl) (by kernel_rfl) (by kernel_rfl) (fun _ _ _ h => h) (by rfl) ?yr_8 (by assumption) ?rr_8
      case yr_8 => (intro w hSw; (try dsimp only at hSw); go_simp; (try with_reducible rfl))
      simp only [Act.put, List.setIfInBounds_toArray, List.set_cons_zero, List.set_cons_succ]
      refine take_l 8 25 (v := ?vr_9) rfl rfl (by kernel_rfl) (by kernel_rfl) (by kernel_rfl) (by kernel_rfl) (fun _ _ _ h => h) (by rfl) ?yr_9 (by assumption) ?rr_9
      case yr_9 => (intro w hSw; (try dsimp only at hSw); go_simp; (try with_reducible rfl))
      simp only [Act.put, List.setIfInBounds_toArray, List.set_cons_zero, List.set_cons_succ]
      refine take_l 9 26 (v := ?vr_10) rfl rfl (by kernel_rfl) (by kernel_rfl) (by kernel_rfl) (by kernel_rfl) (fun _ _ _ h => h) (by rfl) ?yr_10 (by assumption) ?rr_10
      case yr_10 => (intro w hSw; (try dsimp only at hSw); go_simp; (try with_reducible rfl))
      simp only [Act.put, List.setIfInBounds_toArray, List.set_cons_zero, List.set_cons_succ]
      refine take_l 10 27 (v := ?vr_11) rfl rfl (by kernel_rfl) (by kernel_rfl) (by kernel_rfl) (by kernel_rfl) (fun _ _ _ h => h) (by rfl) ?yr_11 (by assumption) ?rr_11
      case yr_11 => (intro w hSw; (try dsimp only at hSw); go_simp; (try with_reducible rfl))
      simp only [Act.put, List.setIfInBounds_toArray, List.set_cons_zero, List.set_cons_succ]
      refine take_l 11 28 (v := ?vr_12) rfl rfl (by kernel_rfl) (by kernel_rfl) (by kernel_rfl) (by kernel_rfl) (fun _ _ _ h => h) (by rfl) ?yr_12 (by assumption) ?rr_12
      case yr_12 => (intro w hSw; (try dsimp only at hSw); go_simp; (try with_reducible rfl))
      simp only [Act.put, List.setIfInBounds_toArray, List.set_cons_zero, List.set_cons_succ]
      refine take_l 12 29 (v := ?vr_13) rfl rfl (by kernel_rfl) (by kernel_rfl) (by kernel_rfl) (by kernel_rfl) (fun _ _ _ h => h) (by rfl) ?yr_13 (by assumption) ?rr_13
      case yr_13 => (intro w hSw; (try dsimp only at hSw); go_simp; (try with_reducible rfl))
      simp only [Act.put, List.setIfInBounds_toArray, List.set_cons_zero, List.set_cons_succ]
      refine take_l 13 30 (v := ?vr_14) rfl rfl (by kernel_rfl) (by kernel_rfl) (by kernel_rfl) (by kernel_rfl) (fun _ _ _ h => h) (by rfl) ?yr_14 (by assumption) ?rr_14
      case yr_14 => (intro w hSw; (try dsimp only at hSw); go_simp; (try with_reducible rfl))
      simp only [Act.put, List.setIfInBounds_toArray, List.set_cons_zero, List.set_cons_succ]
      refine one_l 14 rfl (by kernel_rfl) (fun Kr_15 hKr_15 => ?cr_15)
      go_simp
      refine (implStoDo_any _ _ _ y.items x.writes (KI.out _ HNa.out) (KX.out _ HNa.out)).mono ?_; rintro e w9 ⟨u9, rfl, ho9, hb9⟩; obtain ⟨A9, c9, hf9, -, -⟩ := ho9.row.form; subst hf9; have HN9 := Lib.hid (show Below wr.heap.size wr w9 from HNa.out.trans (hb9.mono HNa.out.size)); have k1 := And.intro (KC.out _ HN9.out).1 (And.intro (KC.out _ HN9.out).2 ((HHx.out.below hb9 HHx.out.1).of 1 _ rfl)); obtain ⟨g7, c7, y7, cs7, Sj7, e7, -, -, -, -, -, -, qf, -, -⟩ := (HPI.out.next HN9.out).own.at_ (j := i) HIy.out; injection e7 with e7 _ _; injection e7 with e7; injection e7 with e7 _ _; subst e7; have HO9 := Lib.hid (ho9.mono (S' := fun b => wr.heap.size ≤ b ∧ b < w9.heap.size) fun b h => ⟨Nat.le_trans HNa.out.size h.1, h.2⟩); clear hb9 ho9
      go_wp2_with fail
      refine hKr_15.out _ _ ?kr_15 (fun hHoldr_15 => ?dr_15)
      case kr_15 => (intro _; (first | (dsimp only; (first | with_reducible exact k1 | exact k0)) | (first | with_reducible exact k1 | exact k0)))
      clear hKr_15 Kr_15
      have hHeldr_15 := hHoldr_15 (by decide)
      clear hHoldr_15
      refine take_l 15 32 (v := ?vr_16) rfl rfl (by kernel_rfl) (by kernel_rfl) (by kernel_rfl) (by kernel_rfl) (fun _ _ _ h => h) (by rfl) ?yr_16 (by assumption) ?rr_16
      case yr_16 => (intro w hSw; (try dsimp only at hSw); go_simp; (try with_reducible rfl))
      simp only [Act.put, List.setIfInBounds_toArray, List.set_cons_zero, List.set_cons_succ]
      refine one_l 16 rfl (by kernel_rfl) (fun Kr_17 hKr_17 => ?cr_17)
      go_simp
      skip
      go_wp2_with fail
      refine hKr_17.out _ _ ?kr_17 (fun hHoldr_17 => ?dr_17)
      case kr_17 => exact fun h => absurd rfl h
      clear hKr_17 Kr_17
      clear hHoldr_17
      refine done_l (by kernel_rfl) ?er _
      have HT := Lib.hid (HPI.out.step hd hp1 hpw HN9.out HIy.out rfl HSg.out HO9.out)
      clear k0 k1 qf
      go_wp2
      go_roundw
      case rel => exact ⟨k + 1, _, by omega, by go_num, by rw [take_snoc HX.out, List.foldl_append, ← HYs.out]; exact (putP_eq HI.out HY.out).symm, by rw [List.length_set]; exact HYl.out, HT.out⟩
      case measure => simp [intOf]; omega
    · obtain rfl : k = ps.length := by omega
      rw [List.take_length] at hys
      subst hys
      have HPI := Lib.hid hP
      clear hP
      go_wp2
      exact bodyPost_end (v := .tuple #[]) (by simp [results, Tryz.results39, go_sem]) rfl ⟨rfl, HPI.out.held, HPI.out.own, HPI.out.out⟩

end Go.Proofs.YtecdibpiojgppaaGreat

/- (*attempt).plan: the function that it defers. -/
namespace Go.Proofs.YtecdibpiojgppaaGreat
open Go.RowKit

set_option maxRecDepth 100000 in
theorem planBack_any (u : FrameMode) (w : World) (r q p : Nat) (ok : Bool) (us uw : Value) (hr : Held w r [.bool ok]) (hq : Held w q [.pointer (some ⟨p, 0, none⟩)]) (hp : Held w p [us, uw]) :
    CallsD Tryz.prog 77 #[.pointer (some ⟨r, 0, none⟩), .pointer (some ⟨q, 0, none⟩)] u w fun e u' w' => u' = u ∧ (e = .returned (.tuple #[]) ∧ w' = if ok then w else w.setCell ⟨p, 1, none⟩ (.slice none 0 0)) := by
  have c0 := hr.of 0 _ rfl
  have c1 := hq.of 0 _ rfl
  have c2 := hp.of 0 _ rfl
  have c3 := hp.of 1 _ rfl
  have cf := hp.2.1 1
  clear hr hq hp
  cases ok
  · go_enter_d Tryz.func77, Tryz.ntmps77
    go_wp2
    go_end0
    exact ⟨rfl, rfl⟩
  · go_enter_d Tryz.func77, Tryz.ntmps77
    go_wp2
    go_end0
    exact ⟨rfl, rfl⟩

end Go.Proofs.YtecdibpiojgppaaGreat
