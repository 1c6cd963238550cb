/- FroOk of the program. By frogen.py. -/
import Derived.Test.YtecdibpiojgppaaXFroP
import Derived.Test.YtecdibpiojgppaaXNoteOk
namespace Go.Proofs.Ytecdibpiojgppaa
open Go.RowKit

set_option maxRecDepth 100000 in
theorem onlyOutcomes_any (w : World) (v : Value) (ns : List Note) (hv : noteSh.Row w w.heap.size v ns) :
    Calls Try.prog 80 #[v] w fun e w' => e = .returned (.bool (outB ns)) ∧ Below w.heap.size w w' := by
  obtain ⟨A, c, rfl, hc2, hc1⟩ := hv.form
  unfold maxLen at hc2
  go_enter Try.func80, Try.ntmps80
  go_wp2
  go_loopw [7] (fun i wr => ∃ k : Nat, k ≤ ns.length ∧ i = .int .i64 k ∧ outB (ns.take k) = true ∧ Below w.heap.size w wr) (fun i _ => ns.length - (intOf i).toNat)
  case atStart => exact ⟨0, Nat.zero_le _, rfl, rfl, Below.refl _ _⟩
  case round =>
    obtain ⟨k, hk, rfl, ho, hb⟩ := hrel
    have HO := Lib.hid ho
    have HB := Lib.hid hb
    clear ho hb
    by_cases hlt : k < ns.length
    · obtain ⟨b, off, c', y, A1, c1, A2, c2, e1, hx, hB, d0, d1, d2, d3, -⟩ := notes_at2 ((hv.below HB.out).more HB.out.size) hlt
      injection e1 with e1a e1b e1c
      subst e1a
      have HT := Lib.hid (out_take hx)
      have HX := Lib.hid hx
      have hki : (k : Int) < (ns.length : Int) := by omega
      have HXb := Lib.hid (HB.out.trans ((belowOne wr (.cells #[.int .i64 y.kind, .int .i64 y.tx, .slice A1 y.locks.length c1, .slice A2 y.writes.length c2] 36)).mono HB.out.size))
      clear e1b e1c hx hv
      by_cases h2 : y.kind = 2
      · have f2 : (y.kind != 2) = false := by simp [h2]
        have HS := Lib.hid (show outB (ns.take (k + 1)) = true by rw [HT.out, HO.out]; simp [h2])
        clear h2
        go_wp2
        go_roundw
        case rel => exact ⟨k + 1, by omega, by go_num, HS.out, HXb.out⟩
        case measure => simp [intOf]; omega
      · have f2 : (y.kind != 2) = true := by simp [h2]
        by_cases h4 : y.kind = 4
        · have f4 : (y.kind != 4) = false := by simp [h4]
          have HS := Lib.hid (show outB (ns.take (k + 1)) = true by rw [HT.out, HO.out]; simp [h4])
          clear h2 h4
          go_wp2
          go_roundw
          case rel => exact ⟨k + 1, by omega, by go_num, HS.out, HXb.out⟩
          case measure => simp [intOf]; omega
        · have f4 : (y.kind != 4) = true := by simp [h4]
          have HN := Lib.hid (out_no HX.out (by simp [h2]) (by simp [h4]))
          clear h2 h4
          go_wp2
          go_ret
          exact ⟨ret_bool HN.out.symm, HXb.out⟩
    · have hks : k = ns.length := by omega
      have HE := Lib.hid (show outB ns = true by have h := HO.out; rwa [hks, List.take_length] at h)
      have hki : ¬ (k : Int) < (ns.length : Int) := by omega
      clear hks
      go_wp2
      go_ret
      exact ⟨ret_bool HE.out.symm, HB.out⟩

set_option maxRecDepth 100000 in
set_option maxHeartbeats 2000000 in
theorem activeOk_any (w : World) (cs : List Value) (x : FTx) (l : Bool) (h : ftxSh.rel w w.heap.size cs x) :
    Calls Try.prog 82 #[.agg cs.toArray, .bool l] w fun e w' => e = .returned (.bool (actB x l)) ∧ Below w.heap.size w w' := by
  obtain ⟨uc, uk, rfl, hc, hk⟩ := ftx_rel.1 h
  obtain ⟨Ac, cc, rfl, -, -⟩ := hc.form
  obtain ⟨Ak, ck, rfl, hk2, hk1⟩ := hk.form
  obtain ⟨tx, o, yes, can, know⟩ := x
  dsimp only at hk1 hc hk ⊢
  unfold maxLen at hk2
  have HC := Lib.hid fun W (hb : Below w.heap.size w W) => (ints_row.1 hc).below hb
  have HK := Lib.hid fun W (hb : Below w.heap.size w W) => (ints_row.1 hk).below hb
  clear h hc hk
  have HV := Lib.hid (show actB ⟨tx, o, yes, can, know⟩ l = (inB tx 0 29 && ((yes == l) && (plsB can && (plsB know && (yes || (opB o && decide (know.length = 0))))))) from rfl)
  have HX := Lib.hid (Held.new w #[.int .i64 tx, .int .i64 o.kind, .int .i64 o.who, .int .i64 o.inn, .int .i64 o.code, .int .i64 o.sec, .int .i64 o.fam, .int .i64 o.gen, .bool yes, .slice Ac can.length cc, .slice Ak know.length ck] 115)
  have HB := Lib.hid (belowOne w (.cells #[.int .i64 tx, .int .i64 o.kind, .int .i64 o.who, .int .i64 o.inn, .int .i64 o.code, .int .i64 o.sec, .int .i64 o.fam, .int .i64 o.gen, .bool yes, .slice Ac can.length cc, .slice Ak know.length ck] 115))
  by_cases hy : yes = l
  · subst hy
    have hself : (yes != yes) = false := by simp
    cases h1 : inB tx 0 29 with
    | false =>
      have HR := Lib.hid (show actB ⟨tx, o, yes, can, know⟩ yes = false by rw [HV.out, h1]; rfl)
      go_enter Try.func82, Try.ntmps82
      go_wp2_with (go_at_call 65; refine (txOk_any _ _).mono ?_; rintro e w' ⟨rfl, rfl⟩; rw [h1])
      go_ret
      exact ⟨ret_bool HR.out.symm, HB.out⟩
    | true =>
      cases h3 : plsB can with
      | false =>
        have HR := Lib.hid (show actB ⟨tx, o, yes, can, know⟩ yes = false by rw [HV.out, h3]; simp)
        go_enter Try.func82, Try.ntmps82
        go_wp2_with fail
        refine (txOk_any _ _).mono ?_
        rintro e w2 ⟨rfl, rfl⟩
        rw [h1]
        go_wp2_with fail
        refine (servicesOk_any _ _ _ can (HC.out _ HB.out)).mono ?_
        rintro e w2 ⟨rfl, rfl⟩
        rw [h3]
        go_wp2
        go_ret
        exact ⟨ret_bool HR.out.symm, HB.out⟩
      | true =>
        cases h4 : plsB know with
        | false =>
          have HR := Lib.hid (show actB ⟨tx, o, yes, can, know⟩ yes = false by rw [HV.out, h4]; simp)
          go_enter Try.func82, Try.ntmps82
          go_wp2_with fail
          refine (txOk_any _ _).mono ?_
          rintro e w2 ⟨rfl, rfl⟩
          rw [h1]
          go_wp2_with fail
          refine (servicesOk_any _ _ _ can (HC.out _ HB.out)).mono ?_
          rintro e w2 ⟨rfl, rfl⟩
          rw [h3]
          go_wp2_with fail
          refine (servicesOk_any _ _ _ know (HK.out _ HB.out)).mono ?_
          rintro e w2 ⟨rfl, rfl⟩
          rw [h4]
          go_wp2
          go_ret
          exact ⟨ret_bool HR.out.symm, HB.out⟩
        | true =>
          have HW := Lib.hid (show actB ⟨tx, o, yes, can, know⟩ yes = (yes || (opB o && decide (know.length = 0))) by rw [HV.out, h1, h3, h4]; simp)
          cases yes with
          | true =>
            go_enter Try.func82, Try.ntmps82
            go_wp2_with fail
            refine (txOk_any _ _).mono ?_
            rintro e w2 ⟨rfl, rfl⟩
            rw [h1]
            go_wp2_with fail
            refine (servicesOk_any _ _ _ can (HC.out _ HB.out)).mono ?_
            rintro e w2 ⟨rfl, rfl⟩
            rw [h3]
            go_wp2_with fail
            refine (servicesOk_any _ _ _ know (HK.out _ HB.out)).mono ?_
            rintro e w2 ⟨rfl, rfl⟩
            rw [h4]
            go_wp2
            go_ret
            exact ⟨ret_bool (show true = _ from by rw [HW.out]; rfl), HB.out⟩
          | false =>
            go_enter Try.func82, Try.ntmps82
            go_wp2_with fail
            refine (txOk_any _ _).mono ?_
            rintro e w2 ⟨rfl, rfl⟩
            rw [h1]
            go_wp2_with fail
            refine (servicesOk_any _ _ _ can (HC.out _ HB.out)).mono ?_
            rintro e w2 ⟨rfl, rfl⟩
            rw [h3]
            go_wp2_with fail
            refine (servicesOk_any _ _ _ know (HK.out _ HB.out)).mono ?_
            rintro e w2 ⟨rfl, rfl⟩
            rw [h4]
            have q0 := HX.out.of 1 _ rfl
            have q1 := HX.out.of 2 _ rfl
            have q2 := HX.out.of 3 _ rfl
            have q3 := HX.out.of 4 _ rfl
            have q4 := HX.out.of 5 _ rfl
            have q5 := HX.out.of 6 _ rfl
            have q6 := HX.out.of 7 _ rfl
            go_wp2_with fail
            clear q0 q1 q2 q3 q4 q5 q6
            refine (implOpOk_any _ o).mono ?_
            rintro e w3 ⟨rfl, hb⟩
            have HB3 := Lib.hid (belowNext HB.out hb)
            have y10 := (HX.out.below hb HX.out.1).of 10 _ rfl
            clear hb
            cases h6 : opB o with
            | false =>
              go_wp2
              go_ret
              exact ⟨ret_bool (show false = _ from by rw [HW.out, h6]; rfl), HB3.out⟩
            | true =>
              by_cases h7 : know.length = 0
              · have h7' : ((know.length : Int) == 0) = true := by simp [h7]
                have HE := Lib.hid (show true = actB ⟨tx, o, false, can, know⟩ false from by rw [HW.out, h6]; simp [h7])
                clear h7
                go_wp2
                go_ret
                exact ⟨ret_bool HE.out, HB3.out⟩
              · have h7' : ((know.length : Int) == 0) = false := by simp [h7]
                have HE := Lib.hid (show false = actB ⟨tx, o, false, can, know⟩ false from by rw [HW.out, h6]; simp [h7])
                clear h7
                go_wp2
                go_ret
                exact ⟨ret_bool HE.out, HB3.out⟩
  · have h2' : (yes == l) = false := by simp [hy]
    have HR := Lib.hid (show actB ⟨tx, o, yes, can, know⟩ l = false by rw [HV.out, h2']; simp)
    clear h2'
    cases yes <;> cases l
    all_goals first
      | exact absurd rfl hy
      | (clear hy
         cases h1 : inB tx 0 29
         all_goals (
           go_enter Try.func82, Try.ntmps82
           go_wp2_with (go_at_call 65; refine (txOk_any _ _).mono ?_; rintro e w' ⟨rfl, rfl⟩; rw [h1])
           go_ret
           exact ⟨ret_bool HR.out.symm, HB.out⟩))

theorem fro_false {x : Fro} (h : diskB x.disk = false ∨ outB x.disk.notes = false ∨ 30 < x.way.length ∨ wayB x.disk.notes (-1) x.way = false) : froB x = false := by
  unfold froB
  rcases h with h | h | h | h
  · rw [h]; rfl
  · rw [h]; simp
  · have : decide (x.way.length ≤ 30) = false := by simp; omega
    rw [this]; simp
  · rw [h]; simp
theorem fro_true {x : Fro} (h1 : diskB x.disk = true) (h2 : outB x.disk.notes = true) (h3 : x.way.length ≤ 30) (h4 : wayB x.disk.notes (-1) x.way = true) : froB x = true := by
  unfold froB
  rw [h1, h2, h4]; simp [h3]

set_option maxRecDepth 100000 in
set_option maxHeartbeats 8000000 in
theorem implFroOk_any (w : World) (cs : List Value) (x : Fro) (h : froSh.rel w w.heap.size cs x) :
    Calls Try.prog 26 #[.agg cs.toArray] w fun e w' => e = .returned (.bool (froB x)) ∧ Below w.heap.size w w' := by
  obtain ⟨un, uw, rfl, hn, hw⟩ := fro_rel.1 h
  obtain ⟨An, cn, rfl, -, -⟩ := hn.form
  obtain ⟨Aw, cw, rfl, hw2, hw1⟩ := hw.form
  unfold maxLen at hw2
  have HN := Lib.hid fun W (hb : Below w.heap.size w W) => (hn.below hb).more hb.size
  have HY := Lib.hid fun W (hb : Below w.heap.size w W) => (hw.below hb).more hb.size
  have HX := Lib.hid (Held.new w #[.slice An x.disk.notes.length cn, .int .i64 x.disk.safe, .slice Aw x.way.length cw] 57)
  have HB := Lib.hid (belowOne w (.cells #[.slice An x.disk.notes.length cn, .int .i64 x.disk.safe, .slice Aw x.way.length cw] 57))
  clear h hn hw
  go_enter Try.func26, Try.ntmps26
  go_wp2_with fail
  refine (implDiskOk_any _ [.slice An x.disk.notes.length cn, .int .i64 x.disk.safe] x.disk (disk_rel.2 ⟨_, rfl, HN.out _ HB.out⟩)).mono ?_
  rintro e w1 ⟨rfl, hb⟩
  replace HX := Lib.hid (HX.out.below hb HX.out.1)
  replace HB := Lib.hid (belowNext HB.out hb)
  clear hb
  cases hd : diskB x.disk with
  | false =>
    have HR := Lib.hid (fro_false (.inl hd))
    clear hd
    go_wp2
    go_ret
    exact ⟨ret_bool HR.out.symm, HB.out⟩
  | true =>
    have c0 := HX.out.of 0 _ rfl
    have HD := Lib.hid hd
    clear hd
    go_wp2_with fail
    clear c0
    refine (onlyOutcomes_any _ _ x.disk.notes (HN.out _ HB.out)).mono ?_
    rintro e w2 ⟨rfl, hb⟩
    replace HX := Lib.hid (HX.out.below hb HX.out.1)
    replace HB := Lib.hid (belowNext HB.out hb)
    clear hb
    cases ho : outB x.disk.notes with
    | false =>
      have HR := Lib.hid (fro_false (.inr (.inl ho)))
      clear ho
      go_wp2
      go_ret
      exact ⟨ret_bool HR.out.symm, HB.out⟩
    | true =>
      have HO := Lib.hid ho
      clear ho
      obtain ⟨c0, c1, c2⟩ := And.intro (HX.out.of 0 _ rfl) (And.intro (HX.out.of 1 _ rfl) (HX.out.of 2 _ rfl))
      by_cases h30 : 30 < x.way.length
      · have HR := Lib.hid (fro_false (.inr (.inr (.inl h30))))
        have h30' : (30 : Int) < (x.way.length : Int) := by omega
        go_wp2
        go_ret
        exact ⟨ret_bool HR.out.symm, HB.out⟩
      · have h30' : ¬ (30 : Int) < (x.way.length : Int) := by omega
        have HL := Lib.hid (show x.way.length ≤ 30 by omega)
        clear h30
        go_wp2_with fail
        clear c0 c1 c2
        refine (listOf_any _ _ x.disk.notes (HN.out _ HB.out)).mono ?_
        rintro e w3 ⟨L, rfl, hR, hb⟩
        unfold ptr
        have hbb := belowNext hb (belowOne w3 (.cells #[.pointer (some ⟨at_ L 0, 0, none⟩)] 123))
        replace HX := Lib.hid (HX.out.below hbb HX.out.1)
        replace HB := Lib.hid (belowNext HB.out hbb)
        have HG := Lib.hid (hR.onward (belowOne w3 (.cells #[.pointer (some ⟨at_ L 0, 0, none⟩)] 123)))
        have HP := Lib.hid (Held.new w3 #[.pointer (some ⟨at_ L 0, 0, none⟩)] 123)
        clear hb hbb hR
        obtain ⟨c0, c1, c2⟩ := And.intro (HX.out.of 0 _ rfl) (And.intro (HX.out.of 1 _ rfl) (HX.out.of 2 _ rfl))
        go_wp2
        clear c0 c1 c2
        generalize (w3.alloc (.cells #[.pointer (some ⟨at_ L 0, 0, none⟩)] 123)) = w4 at *
        have HRg := Lib.hid fun X (hX : Below w4.heap.size w4 X) => HG.out.onward hX
        have KC := Lib.hid fun X (hX : Below w4.heap.size w4 X) => show X.cell? ⟨w.heap.size, 2, none⟩ = some (.slice Aw x.way.length cw) ∧ X.cell? ⟨w3.heap.size, 0, none⟩ = some (.pointer (some ⟨at_ L 0, 0, none⟩)) from
          ⟨(HX.out.below hX HX.out.1).of 2 _ rfl, (HP.out.below hX HP.out.1).of 0 _ rfl⟩
        have HYr := Lib.hid fun X (hX : Below w4.heap.size w4 X) => show ftxSh.Row X X.heap.size (.slice Aw x.way.length cw) x.way ∧ Below w.heap.size w X from
          ⟨HY.out _ (belowNext HB.out hX), belowNext HB.out hX⟩
        have HB4 := Lib.hid (show Below w4.heap.size w4 w4 from Below.refl _ _)
        have hw1' : x.way.length ≤ 30 := HL.out
        clear HX HB HP HG HN HY
        go_loopw [30] (fun i wr => ∃ k : Nat, k ≤ x.way.length ∧ i = .int .i64 k ∧ wayB x.disk.notes (-1) x.way = wayB x.disk.notes (pvT x.way k) (x.way.drop k) ∧ Below w4.heap.size w4 wr) (fun i _ => x.way.length - (intOf i).toNat)
        case atStart => exact ⟨0, Nat.zero_le _, rfl, rfl, HB4.out⟩
        case round =>
          clear HB4
          obtain ⟨k, hk, rfl, hinv, hb⟩ := hrel
          have HI := Lib.hid hinv
          have HBr := Lib.hid hb
          clear hinv hb
          by_cases hlt : k < x.way.length
          · obtain ⟨bw, ow, dw, y, uc, uk, e1, hy, hBw, ⟨t0, t1, t2, t3, t4, t5, t6, t7, t8, t9, t10⟩, hyc, hyk⟩ := ftxs_at (HYr.out _ HBr.out).1 hlt
            obtain ⟨Ac, cc, rfl, -, -⟩ := hyc.form
            obtain ⟨Ak, ck, rfl, -, -⟩ := hyk.form
            injection e1 with e1a e1b e1c
            subst e1a
            have HW := Lib.hid (way_at (ns := x.disk.notes) hy)
            have HYy := Lib.hid hy
            have hki : (k : Int) < (x.way.length : Int) := by omega
            have hk0 : (0 : Int) ≤ (k : Int) := by omega
            have HXb := Lib.hid (Held.new wr #[.int .i64 y.tx, .int .i64 y.op.kind, .int .i64 y.op.who, .int .i64 y.op.inn, .int .i64 y.op.code, .int .i64 y.op.sec, .int .i64 y.op.fam, .int .i64 y.op.gen, .bool y.yes, .slice Ac y.can.length cc, .slice Ak y.know.length ck] 115)
            have HBb := Lib.hid (belowOne wr (.cells #[.int .i64 y.tx, .int .i64 y.op.kind, .int .i64 y.op.who, .int .i64 y.op.inn, .int .i64 y.op.code, .int .i64 y.op.sec, .int .i64 y.op.fam, .int .i64 y.op.gen, .bool y.yes, .slice Ac y.can.length cc, .slice Ak y.know.length ck] 115))
            have HB5 := Lib.hid (HBr.out.trans (HBb.out.mono HBr.out.size))
            have HFr := Lib.hid fun X (hX : Below (wr.alloc (.cells #[.int .i64 y.tx, .int .i64 y.op.kind, .int .i64 y.op.who, .int .i64 y.op.inn, .int .i64 y.op.code, .int .i64 y.op.sec, .int .i64 y.op.fam, .int .i64 y.op.gen, .bool y.yes, .slice Ac y.can.length cc, .slice Ak y.know.length ck] 115)).heap.size (wr.alloc (.cells #[.int .i64 y.tx, .int .i64 y.op.kind, .int .i64 y.op.who, .int .i64 y.op.inn, .int .i64 y.op.code, .int .i64 y.op.sec, .int .i64 y.op.fam, .int .i64 y.op.gen, .bool y.yes, .slice Ac y.can.length cc, .slice Ak y.know.length ck] 115)) X) => show ftxSh.rel X X.heap.size [.int .i64 y.tx, .int .i64 y.op.kind, .int .i64 y.op.who, .int .i64 y.op.inn, .int .i64 y.op.code, .int .i64 y.op.sec, .int .i64 y.op.fam, .int .i64 y.op.gen, .bool y.yes, .slice Ac y.can.length cc, .slice Ak y.know.length ck] y from
              have h1 : Below wr.heap.size wr X := belowNext HBb.out hX
              ftx_rel.2 ⟨_, _, rfl, (hyc.below h1).more h1.size, (hyk.below h1).more h1.size⟩
            have HFc := Lib.hid fun X (hX : Below (wr.alloc (.cells #[.int .i64 y.tx, .int .i64 y.op.kind, .int .i64 y.op.who, .int .i64 y.op.inn, .int .i64 y.op.code, .int .i64 y.op.sec, .int .i64 y.op.fam, .int .i64 y.op.gen, .bool y.yes, .slice Ac y.can.length cc, .slice Ak y.know.length ck] 115)).heap.size (wr.alloc (.cells #[.int .i64 y.tx, .int .i64 y.op.kind, .int .i64 y.op.who, .int .i64 y.op.inn, .int .i64 y.op.code, .int .i64 y.op.sec, .int .i64 y.op.fam, .int .i64 y.op.gen, .bool y.yes, .slice Ac y.can.length cc, .slice Ak y.know.length ck] 115)) X) => show (X.cell? ⟨wr.heap.size, 0, none⟩ = some (.int .i64 y.tx) ∧ X.cell? ⟨wr.heap.size, 1, none⟩ = some (.int .i64 y.op.kind) ∧ X.cell? ⟨wr.heap.size, 2, none⟩ = some (.int .i64 y.op.who) ∧ X.cell? ⟨wr.heap.size, 3, none⟩ = some (.int .i64 y.op.inn) ∧ X.cell? ⟨wr.heap.size, 4, none⟩ = some (.int .i64 y.op.code) ∧ X.cell? ⟨wr.heap.size, 5, none⟩ = some (.int .i64 y.op.sec) ∧ X.cell? ⟨wr.heap.size, 6, none⟩ = some (.int .i64 y.op.fam) ∧ X.cell? ⟨wr.heap.size, 7, none⟩ = some (.int .i64 y.op.gen) ∧ X.cell? ⟨wr.heap.size, 8, none⟩ = some (.bool y.yes) ∧ X.cell? ⟨wr.heap.size, 9, none⟩ = some (.slice Ac y.can.length cc) ∧ X.cell? ⟨wr.heap.size, 10, none⟩ = some (.slice Ak y.know.length ck)) from
              ⟨(HXb.out.below hX HXb.out.1).of 0 _ rfl, (HXb.out.below hX HXb.out.1).of 1 _ rfl, (HXb.out.below hX HXb.out.1).of 2 _ rfl, (HXb.out.below hX HXb.out.1).of 3 _ rfl, (HXb.out.below hX HXb.out.1).of 4 _ rfl, (HXb.out.below hX HXb.out.1).of 5 _ rfl, (HXb.out.below hX HXb.out.1).of 6 _ rfl, (HXb.out.below hX HXb.out.1).of 7 _ rfl, (HXb.out.below hX HXb.out.1).of 8 _ rfl, (HXb.out.below hX HXb.out.1).of 9 _ rfl, (HXb.out.below hX HXb.out.1).of 10 _ rfl⟩
            have HTj := Lib.hid fun X (hX : Below wr.heap.size wr X) => show ∀ j y', x.way[j]? = some y' → X.cell? ⟨bw, ow + j * 11, none⟩ = some (.int .i64 y'.tx) from fun j y' hj => by
              obtain ⟨b2, o2, d2, y2, u2, u2', e2, hy2, hB2, ⟨s0, -⟩, -, -⟩ := ftxs_at (HYr.out _ (HBr.out.trans (hX.mono HBr.out.size))).1 (k := j) (List.getElem?_eq_some_iff.1 hj).1
              injection e2 with e2a _ _
              injection e2a with e2a
              injection e2a with e2b e2c _
              subst e2b e2c
              rw [hj] at hy2
              obtain rfl := Option.some.inj hy2
              exact s0
            have kc := KC.out _ HBr.out
            clear hy hyc hyk e1b e1c hBw
            have HWb := Lib.hid (show Below (wr.alloc (.cells #[.int .i64 y.tx, .int .i64 y.op.kind, .int .i64 y.op.who, .int .i64 y.op.inn, .int .i64 y.op.code, .int .i64 y.op.sec, .int .i64 y.op.fam, .int .i64 y.op.gen, .bool y.yes, .slice Ac y.can.length cc, .slice Ak y.know.length ck] 115)).heap.size (wr.alloc (.cells #[.int .i64 y.tx, .int .i64 y.op.kind, .int .i64 y.op.who, .int .i64 y.op.inn, .int .i64 y.op.code, .int .i64 y.op.sec, .int .i64 y.op.fam, .int .i64 y.op.gen, .bool y.yes, .slice Ac y.can.length cc, .slice Ak y.know.length ck] 115)) (wr.alloc (.cells #[.int .i64 y.tx, .int .i64 y.op.kind, .int .i64 y.op.who, .int .i64 y.op.inn, .int .i64 y.op.code, .int .i64 y.op.sec, .int .i64 y.op.fam, .int .i64 y.op.gen, .bool y.yes, .slice Ac y.can.length cc, .slice Ak y.know.length ck] 115)).drew from (Below.refl _ _).drew)
            have HWd := Lib.hid (show Below w4.heap.size w4 (wr.alloc (.cells #[.int .i64 y.tx, .int .i64 y.op.kind, .int .i64 y.op.who, .int .i64 y.op.inn, .int .i64 y.op.code, .int .i64 y.op.sec, .int .i64 y.op.fam, .int .i64 y.op.gen, .bool y.yes, .slice Ac y.can.length cc, .slice Ak y.know.length ck] 115)).drew from HB5.out.drew)
            have HGo := Lib.hid fun X (hX : Below (wr.alloc (.cells #[.int .i64 y.tx, .int .i64 y.op.kind, .int .i64 y.op.who, .int .i64 y.op.inn, .int .i64 y.op.code, .int .i64 y.op.sec, .int .i64 y.op.fam, .int .i64 y.op.gen, .bool y.yes, .slice Ac y.can.length cc, .slice Ak y.know.length ck] 115)).heap.size (wr.alloc (.cells #[.int .i64 y.tx, .int .i64 y.op.kind, .int .i64 y.op.who, .int .i64 y.op.inn, .int .i64 y.op.code, .int .i64 y.op.sec, .int .i64 y.op.fam, .int .i64 y.op.gen, .bool y.yes, .slice Ac y.can.length cc, .slice Ak y.know.length ck] 115)) X) => show Below w4.heap.size w4 X from HB5.out.trans (hX.mono HB5.out.size)
            have HTp := Lib.hid fun X (hX : Below (wr.alloc (.cells #[.int .i64 y.tx, .int .i64 y.op.kind, .int .i64 y.op.who, .int .i64 y.op.inn, .int .i64 y.op.code, .int .i64 y.op.sec, .int .i64 y.op.fam, .int .i64 y.op.gen, .bool y.yes, .slice Ac y.can.length cc, .slice Ak y.know.length ck] 115)).heap.size (wr.alloc (.cells #[.int .i64 y.tx, .int .i64 y.op.kind, .int .i64 y.op.who, .int .i64 y.op.inn, .int .i64 y.op.code, .int .i64 y.op.sec, .int .i64 y.op.fam, .int .i64 y.op.gen, .bool y.yes, .slice Ac y.can.length cc, .slice Ak y.know.length ck] 115)) X) => HTj.out X (belowNext HBb.out hX)
            have HAl := Lib.hid fun X (hX : Below (wr.alloc (.cells #[.int .i64 y.tx, .int .i64 y.op.kind, .int .i64 y.op.who, .int .i64 y.op.inn, .int .i64 y.op.code, .int .i64 y.op.sec, .int .i64 y.op.fam, .int .i64 y.op.gen, .bool y.yes, .slice Ac y.can.length cc, .slice Ak y.know.length ck] 115)).heap.size (wr.alloc (.cells #[.int .i64 y.tx, .int .i64 y.op.kind, .int .i64 y.op.who, .int .i64 y.op.inn, .int .i64 y.op.code, .int .i64 y.op.sec, .int .i64 y.op.fam, .int .i64 y.op.gen, .bool y.yes, .slice Ac y.can.length cc, .slice Ak y.know.length ck] 115)) X) => show (X.cell? ⟨w.heap.size, 2, none⟩ = some (.slice (some ⟨bw, ow, none⟩) x.way.length cw) ∧ X.cell? ⟨w3.heap.size, 0, none⟩ = some (.pointer (some ⟨at_ L 0, 0, none⟩)) ∧ X.cell? ⟨wr.heap.size, 0, none⟩ = some (.int .i64 y.tx) ∧ X.cell? ⟨wr.heap.size, 1, none⟩ = some (.int .i64 y.op.kind) ∧ X.cell? ⟨wr.heap.size, 2, none⟩ = some (.int .i64 y.op.who) ∧ X.cell? ⟨wr.heap.size, 3, none⟩ = some (.int .i64 y.op.inn) ∧ X.cell? ⟨wr.heap.size, 4, none⟩ = some (.int .i64 y.op.code) ∧ X.cell? ⟨wr.heap.size, 5, none⟩ = some (.int .i64 y.op.sec) ∧ X.cell? ⟨wr.heap.size, 6, none⟩ = some (.int .i64 y.op.fam) ∧ X.cell? ⟨wr.heap.size, 7, none⟩ = some (.int .i64 y.op.gen) ∧ X.cell? ⟨wr.heap.size, 8, none⟩ = some (.bool y.yes) ∧ X.cell? ⟨wr.heap.size, 9, none⟩ = some (.slice Ac y.can.length cc) ∧ X.cell? ⟨wr.heap.size, 10, none⟩ = some (.slice Ak y.know.length ck)) from by
              obtain ⟨a0, a1, a2, a3, a4, a5, a6, a7, a8, a9, a10⟩ := HFc.out X hX
              obtain ⟨b1, b2⟩ := KC.out X (HGo.out X hX)
              exact ⟨b1, b2, a0, a1, a2, a3, a4, a5, a6, a7, a8, a9, a10⟩
            obtain ⟨kc1, -⟩ := kc
            clear HFc HTj HXb HBb HB5
            go_wp2
            clear t0 t1 t2 t3 t4 t5 t6 t7 t8 t9 t10 kc1
            generalize (wr.alloc (.cells #[.int .i64 y.tx, .int .i64 y.op.kind, .int .i64 y.op.who, .int .i64 y.op.inn, .int .i64 y.op.code, .int .i64 y.op.sec, .int .i64 y.op.fam, .int .i64 y.op.gen, .bool y.yes, .slice Ac y.can.length cc, .slice Ak y.know.length ck] 115)) = wb at *
            by_cases h0 : k = 0
            · subst h0
              have k0 := HAl.out _ HWb.out
              cases hact : actB y (lastK x.disk.notes y.tx == 2) with
              | false =>
                have HNo := Lib.hid (show froB x = false from fro_false (.inr (.inr (.inr (by rw [HI.out, HW.out, hact]; rfl)))))
                refine wp_region_held_drew (S := (fun w' => w'.cell? ⟨w.heap.size, 2, none⟩ = some (.slice (some ⟨bw, ow, none⟩) x.way.length cw) ∧ w'.cell? ⟨w3.heap.size, 0, none⟩ = some (.pointer (some ⟨at_ L 0, 0, none⟩)) ∧ w'.cell? ⟨wr.heap.size, 0, none⟩ = some (.int .i64 y.tx) ∧ w'.cell? ⟨wr.heap.size, 1, none⟩ = some (.int .i64 y.op.kind) ∧ w'.cell? ⟨wr.heap.size, 2, none⟩ = some (.int .i64 y.op.who) ∧ w'.cell? ⟨wr.heap.size, 3, none⟩ = some (.int .i64 y.op.inn) ∧ w'.cell? ⟨wr.heap.size, 4, none⟩ = some (.int .i64 y.op.code) ∧ w'.cell? ⟨wr.heap.size, 5, none⟩ = some (.int .i64 y.op.sec) ∧ w'.cell? ⟨wr.heap.size, 6, none⟩ = some (.int .i64 y.op.fam) ∧ w'.cell? ⟨wr.heap.size, 7, none⟩ = some (.int .i64 y.op.gen) ∧ w'.cell? ⟨wr.heap.size, 8, none⟩ = some (.bool y.yes) ∧ w'.cell? ⟨wr.heap.size, 9, none⟩ = some (.slice Ac y.can.length cc) ∧ w'.cell? ⟨wr.heap.size, 10, none⟩ = some (.slice Ak y.know.length ck))) (by kernel_rfl) ?hSra (fun hHeldra => ?stra)
                case hSra => (first | (dsimp only; (first | with_reducible exact k0 | exact k0)) | (first | with_reducible exact k0 | exact k0))
                refine take_first 0 35 (v := ?vra_1) rfl rfl (by kernel_rfl) (by kernel_rfl) (by kernel_rfl) (fun _ _ _ h => h) (by rfl) ?yra_1 (by assumption) ?rra_1
                case yra_1 => (intro w hSw; (try dsimp only at hSw); go_simp; (try with_reducible rfl))
                simp only [Act.put, List.setIfInBounds_toArray, List.set_cons_zero, List.set_cons_succ]
                refine take_first 1 36 (v := ?vra_2) rfl rfl (by kernel_rfl) (by kernel_rfl) (by kernel_rfl) (fun _ _ _ h => h) (by rfl) ?yra_2 (by assumption) ?rra_2
                case yra_2 => (intro w hSw; (try dsimp only at hSw); go_simp; (try with_reducible rfl))
                simp only [Act.put, List.setIfInBounds_toArray, List.set_cons_zero, List.set_cons_succ]
                refine take_first 2 37 (v := ?vra_3) rfl rfl (by kernel_rfl) (by kernel_rfl) (by kernel_rfl) (fun _ _ _ h => h) (by rfl) ?yra_3 (by assumption) ?rra_3
                case yra_3 => (intro w hSw; (try dsimp only at hSw); go_simp; (try with_reducible rfl))
                simp only [Act.put, List.setIfInBounds_toArray, List.set_cons_zero, List.set_cons_succ]
                refine pass_over 3 38 rfl rfl (by kernel_rfl) (by kernel_rfl) (by kernel_rfl) (fun _ _ _ h => h) (by rfl) (by assumption) ?rra_4
                simp only [Act.put, List.setIfInBounds_toArray, List.set_cons_zero, List.set_cons_succ]
                refine pass_over 4 39 rfl rfl (by kernel_rfl) (by kernel_rfl) (by kernel_rfl) (fun _ _ _ h => h) (by rfl) (by assumption) ?rra_5
                simp only [Act.put, List.setIfInBounds_toArray, List.set_cons_zero, List.set_cons_succ]
                refine pass_over 5 40 rfl rfl (by kernel_rfl) (by kernel_rfl) (by kernel_rfl) (fun _ _ _ h => h) (by rfl) (by assumption) ?rra_6
                simp only [Act.put, List.setIfInBounds_toArray, List.set_cons_zero, List.set_cons_succ]
                refine pass_over 6 41 rfl rfl (by kernel_rfl) (by kernel_rfl) (by kernel_rfl) (fun _ _ _ h => h) (by rfl) (by assumption) ?rra_7
                simp only [Act.put, List.setIfInBounds_toArray, List.set_cons_zero, List.set_cons_succ]
                refine pass_over 7 42 rfl rfl (by kernel_rfl) (by kernel_rfl) (by kernel_rfl) (fun _ _ _ h => h) (by rfl) (by assumption) ?rra_8
                simp only [Act.put, List.setIfInBounds_toArray, List.set_cons_zero, List.set_cons_succ]
                refine pass_over 8 43 rfl rfl (by kernel_rfl) (by kernel_rfl) (by kernel_rfl) (fun _ _ _ h => h) (by rfl) (by assumption) ?rra_9
                simp only [Act.put, List.setIfInBounds_toArray, List.set_cons_zero, List.set_cons_succ]
                refine pass_over 9 44 rfl rfl (by kernel_rfl) (by kernel_rfl) (by kernel_rfl) (fun _ _ _ h => h) (by rfl) (by assumption) ?rra_10
                simp only [Act.put, List.setIfInBounds_toArray, List.set_cons_zero, List.set_cons_succ]
                refine pass_over 10 45 rfl rfl (by kernel_rfl) (by kernel_rfl) (by kernel_rfl) (fun _ _ _ h => h) (by rfl) (by assumption) ?rra_11
                simp only [Act.put, List.setIfInBounds_toArray, List.set_cons_zero, List.set_cons_succ]
                refine pass_over 11 46 rfl rfl (by kernel_rfl) (by kernel_rfl) (by kernel_rfl) (fun _ _ _ h => h) (by rfl) (by assumption) ?rra_12
                simp only [Act.put, List.setIfInBounds_toArray, List.set_cons_zero, List.set_cons_succ]
                refine pass_over 12 47 rfl rfl (by kernel_rfl) (by kernel_rfl) (by kernel_rfl) (fun _ _ _ h => h) (by rfl) (by assumption) ?rra_13
                simp only [Act.put, List.setIfInBounds_toArray, List.set_cons_zero, List.set_cons_succ]
                refine take_first 13 48 (v := ?vra_14) rfl rfl (by kernel_rfl) (by kernel_rfl) (by kernel_rfl) (fun _ _ _ h => h) (by rfl) ?yra_14 (by assumption) ?rra_14
                case yra_14 => (intro w hSw; (try dsimp only at hSw); go_simp; (try with_reducible rfl))
                simp only [Act.put, List.setIfInBounds_toArray, List.set_cons_zero, List.set_cons_succ]
                refine take_first 14 49 (v := ?vra_15) rfl rfl (by kernel_rfl) (by kernel_rfl) (by kernel_rfl) (fun _ _ _ h => h) (by rfl) ?yra_15 (by assumption) ?rra_15
                case yra_15 => (intro w hSw; (try dsimp only at hSw); go_simp; (try with_reducible rfl))
                simp only [Act.put, List.setIfInBounds_toArray, List.set_cons_zero, List.set_cons_succ]
                refine take_first 15 50 (v := ?vra_16) rfl rfl (by kernel_rfl) (by kernel_rfl) (by kernel_rfl) (fun _ _ _ h => h) (by rfl) ?yra_16 (by assumption) ?rra_16
                case yra_16 => (intro w hSw; (try dsimp only at hSw); go_simp; (try with_reducible rfl))
                simp only [Act.put, List.setIfInBounds_toArray, List.set_cons_zero, List.set_cons_succ]
                refine take_first 16 51 (v := ?vra_17) rfl rfl (by kernel_rfl) (by kernel_rfl) (by kernel_rfl) (fun _ _ _ h => h) (by rfl) ?yra_17 (by assumption) ?rra_17
                case yra_17 => (intro w hSw; (try dsimp only at hSw); go_simp; (try with_reducible rfl))
                simp only [Act.put, List.setIfInBounds_toArray, List.set_cons_zero, List.set_cons_succ]
                refine take_first 17 52 (v := ?vra_18) rfl rfl (by kernel_rfl) (by kernel_rfl) (by kernel_rfl) (fun _ _ _ h => h) (by rfl) ?yra_18 (by assumption) ?rra_18
                case yra_18 => (intro w hSw; (try dsimp only at hSw); go_simp; (try with_reducible rfl))
                simp only [Act.put, List.setIfInBounds_toArray, List.set_cons_zero, List.set_cons_succ]
                refine take_first 18 53 (v := ?vra_19) rfl rfl (by kernel_rfl) (by kernel_rfl) (by kernel_rfl) (fun _ _ _ h => h) (by rfl) ?yra_19 (by assumption) ?rra_19
                case yra_19 => (intro w hSw; (try dsimp only at hSw); go_simp; (try with_reducible rfl))
                simp only [Act.put, List.setIfInBounds_toArray, List.set_cons_zero, List.set_cons_succ]
                refine wpAnyH_ready (rs := [19]) (by kernel_rfl) (by simp) ?_
                refine AllReadyH.cons (o := _) rfl (fun Kra_20 hKra_20 => ?cra_20) ?mra_20
                case mra_20 => exact AllReadyH.nil
                go_simp
                have HA := lastKind_any _ _ L x.disk.notes y.tx (HRg.out _ (HGo.out _ HWb.out)); unfold ptr at HA; refine HA.mono ?_; rintro e wa ⟨rfl, hba⟩; have HWe := Lib.hid (HWb.out.trans (hba.mono HWb.out.size)); replace k0 := HAl.out _ HWe.out; clear hba HA
                go_wp2_with fail
                refine hKra_20.out _ _ ?kra_20 (fun hHeldra_20 => ?dra_20)
                case kra_20 => (first | (dsimp only; (first | with_reducible exact k0 | exact k0)) | (first | with_reducible exact k0 | exact k0))
                clear hKra_20 Kra_20
                refine take_first 20 55 (v := ?vra_21) rfl rfl (by kernel_rfl) (by kernel_rfl) (by kernel_rfl) (fun _ _ _ h => h) (by rfl) ?yra_21 (by assumption) ?rra_21
                case yra_21 => (intro w hSw; (try dsimp only at hSw); go_simp; (try with_reducible rfl))
                simp only [Act.put, List.setIfInBounds_toArray, List.set_cons_zero, List.set_cons_succ]
                refine wpAnyH_ready (rs := [21]) (by kernel_rfl) (by simp) ?_
                refine AllReadyH.cons (o := _) rfl (fun Kra_22 hKra_22 => ?cra_22) ?mra_22
                case mra_22 => exact AllReadyH.nil
                go_simp
                refine (activeOk_any _ _ y _ (HFr.out _ HWe.out)).mono ?_; rintro e wc ⟨rfl, hbc⟩; rw [hact]; have HWf := Lib.hid (HWe.out.trans (hbc.mono HWe.out.size)); replace k0 := HAl.out _ HWf.out; clear hbc
                go_wp2_with fail
                refine hKra_22.out _ _ ?kra_22 (fun hHeldra_22 => ?dra_22)
                case kra_22 => (first | (dsimp only; (first | with_reducible exact k0 | exact k0)) | (first | with_reducible exact k0 | exact k0))
                clear hKra_22 Kra_22
                refine take_first 22 57 (v := ?vra_23) rfl rfl (by kernel_rfl) (by kernel_rfl) (by kernel_rfl) (fun _ _ _ h => h) (by rfl) ?yra_23 (by assumption) ?rra_23
                case yra_23 => (intro w hSw; (try dsimp only at hSw); go_simp; (try with_reducible rfl))
                simp only [Act.put, List.setIfInBounds_toArray, List.set_cons_zero, List.set_cons_succ]
                refine take_first 23 58 (v := ?vra_24) rfl rfl (by kernel_rfl) (by kernel_rfl) (by kernel_rfl) (fun _ _ _ h => h) (by rfl) ?yra_24 (by assumption) ?rra_24
                case yra_24 => (intro w hSw; (try dsimp only at hSw); go_simp; (try with_reducible rfl))
                simp only [Act.put, List.setIfInBounds_toArray, List.set_cons_zero, List.set_cons_succ]
                refine wpAnyH_done (by kernel_rfl) ?era _
                clear k0
                have HBz := Lib.hid (HYr.out _ (HGo.out _ HWf.out)).2
                go_wp2
                go_ret
                exact ⟨ret_bool HNo.out.symm, HBz.out⟩
              | true =>
                have HSt := Lib.hid (show wayB x.disk.notes (-1) x.way = wayB x.disk.notes (pvT x.way (0 + 1)) (x.way.drop (0 + 1)) by
                  have hp := act_pos hact
                  rw [HI.out, HW.out, hact, show pvT x.way 0 = -1 from rfl, show decide ((-1 : Int) < y.tx) = true by simp; omega]; rfl)
                refine wp_region_held_drew (S := (fun w' => w'.cell? ⟨w.heap.size, 2, none⟩ = some (.slice (some ⟨bw, ow, none⟩) x.way.length cw) ∧ w'.cell? ⟨w3.heap.size, 0, none⟩ = some (.pointer (some ⟨at_ L 0, 0, none⟩)) ∧ w'.cell? ⟨wr.heap.size, 0, none⟩ = some (.int .i64 y.tx) ∧ w'.cell? ⟨wr.heap.size, 1, none⟩ = some (.int .i64 y.op.kind) ∧ w'.cell? ⟨wr.heap.size, 2, none⟩ = some (.int .i64 y.op.who) ∧ w'.cell? ⟨wr.heap.size, 3, none⟩ = some (.int .i64 y.op.inn) ∧ w'.cell? ⟨wr.heap.size, 4, none⟩ = some (.int .i64 y.op.code) ∧ w'.cell? ⟨wr.heap.size, 5, none⟩ = some (.int .i64 y.op.sec) ∧ w'.cell? ⟨wr.heap.size, 6, none⟩ = some (.int .i64 y.op.fam) ∧ w'.cell? ⟨wr.heap.size, 7, none⟩ = some (.int .i64 y.op.gen) ∧ w'.cell? ⟨wr.heap.size, 8, none⟩ = some (.bool y.yes) ∧ w'.cell? ⟨wr.heap.size, 9, none⟩ = some (.slice Ac y.can.length cc) ∧ w'.cell? ⟨wr.heap.size, 10, none⟩ = some (.slice Ak y.know.length ck))) (by kernel_rfl) ?hSrb (fun hHeldrb => ?strb)
                case hSrb => (first | (dsimp only; (first | with_reducible exact k0 | exact k0)) | (first | with_reducible exact k0 | exact k0))
                refine take_first 0 35 (v := ?vrb_1) rfl rfl (by kernel_rfl) (by kernel_rfl) (by kernel_rfl) (fun _ _ _ h => h) (by rfl) ?yrb_1 (by assumption) ?rrb_1
                case yrb_1 => (intro w hSw; (try dsimp only at hSw); go_simp; (try with_reducible rfl))
                simp only [Act.put, List.setIfInBounds_toArray, List.set_cons_zero, List.set_cons_succ]
                refine take_first 1 36 (v := ?vrb_2) rfl rfl (by kernel_rfl) (by kernel_rfl) (by kernel_rfl) (fun _ _ _ h => h) (by rfl) ?yrb_2 (by assumption) ?rrb_2
                case yrb_2 => (intro w hSw; (try dsimp only at hSw); go_simp; (try with_reducible rfl))
                simp only [Act.put, List.setIfInBounds_toArray, List.set_cons_zero, List.set_cons_succ]
                refine take_first 2 37 (v := ?vrb_3) rfl rfl (by kernel_rfl) (by kernel_rfl) (by kernel_rfl) (fun _ _ _ h => h) (by rfl) ?yrb_3 (by assumption) ?rrb_3
                case yrb_3 => (intro w hSw; (try dsimp only at hSw); go_simp; (try with_reducible rfl))
                simp only [Act.put, List.setIfInBounds_toArray, List.set_cons_zero, List.set_cons_succ]
                refine pass_over 3 38 rfl rfl (by kernel_rfl) (by kernel_rfl) (by kernel_rfl) (fun _ _ _ h => h) (by rfl) (by assumption) ?rrb_4
                simp only [Act.put, List.setIfInBounds_toArray, List.set_cons_zero, List.set_cons_succ]
                refine pass_over 4 39 rfl rfl (by kernel_rfl) (by kernel_rfl) (by kernel_rfl) (fun _ _ _ h => h) (by rfl) (by assumption) ?rrb_5
                simp only [Act.put, List.setIfInBounds_toArray, List.set_cons_zero, List.set_cons_succ]
                refine pass_over 5 40 rfl rfl (by kernel_rfl) (by kernel_rfl) (by kernel_rfl) (fun _ _ _ h => h) (by rfl) (by assumption) ?rrb_6
                simp only [Act.put, List.setIfInBounds_toArray, List.set_cons_zero, List.set_cons_succ]
                refine pass_over 6 41 rfl rfl (by kernel_rfl) (by kernel_rfl) (by kernel_rfl) (fun _ _ _ h => h) (by rfl) (by assumption) ?rrb_7
                simp only [Act.put, List.setIfInBounds_toArray, List.set_cons_zero, List.set_cons_succ]
                refine pass_over 7 42 rfl rfl (by kernel_rfl) (by kernel_rfl) (by kernel_rfl) (fun _ _ _ h => h) (by rfl) (by assumption) ?rrb_8
                simp only [Act.put, List.setIfInBounds_toArray, List.set_cons_zero, List.set_cons_succ]
                refine pass_over 8 43 rfl rfl (by kernel_rfl) (by kernel_rfl) (by kernel_rfl) (fun _ _ _ h => h) (by rfl) (by assumption) ?rrb_9
                simp only [Act.put, List.setIfInBounds_toArray, List.set_cons_zero, List.set_cons_succ]
                refine pass_over 9 44 rfl rfl (by kernel_rfl) (by kernel_rfl) (by kernel_rfl) (fun _ _ _ h => h) (by rfl) (by assumption) ?rrb_10
                simp only [Act.put, List.setIfInBounds_toArray, List.set_cons_zero, List.set_cons_succ]
                refine pass_over 10 45 rfl rfl (by kernel_rfl) (by kernel_rfl) (by kernel_rfl) (fun _ _ _ h => h) (by rfl) (by assumption) ?rrb_11
                simp only [Act.put, List.setIfInBounds_toArray, List.set_cons_zero, List.set_cons_succ]
                refine pass_over 11 46 rfl rfl (by kernel_rfl) (by kernel_rfl) (by kernel_rfl) (fun _ _ _ h => h) (by rfl) (by assumption) ?rrb_12
                simp only [Act.put, List.setIfInBounds_toArray, List.set_cons_zero, List.set_cons_succ]
                refine pass_over 12 47 rfl rfl (by kernel_rfl) (by kernel_rfl) (by kernel_rfl) (fun _ _ _ h => h) (by rfl) (by assumption) ?rrb_13
                simp only [Act.put, List.setIfInBounds_toArray, List.set_cons_zero, List.set_cons_succ]
                refine take_first 13 48 (v := ?vrb_14) rfl rfl (by kernel_rfl) (by kernel_rfl) (by kernel_rfl) (fun _ _ _ h => h) (by rfl) ?yrb_14 (by assumption) ?rrb_14
                case yrb_14 => (intro w hSw; (try dsimp only at hSw); go_simp; (try with_reducible rfl))
                simp only [Act.put, List.setIfInBounds_toArray, List.set_cons_zero, List.set_cons_succ]
                refine take_first 14 49 (v := ?vrb_15) rfl rfl (by kernel_rfl) (by kernel_rfl) (by kernel_rfl) (fun _ _ _ h => h) (by rfl) ?yrb_15 (by assumption) ?rrb_15
                case yrb_15 => (intro w hSw; (try dsimp only at hSw); go_simp; (try with_reducible rfl))
                simp only [Act.put, List.setIfInBounds_toArray, List.set_cons_zero, List.set_cons_succ]
                refine take_first 15 50 (v := ?vrb_16) rfl rfl (by kernel_rfl) (by kernel_rfl) (by kernel_rfl) (fun _ _ _ h => h) (by rfl) ?yrb_16 (by assumption) ?rrb_16
                case yrb_16 => (intro w hSw; (try dsimp only at hSw); go_simp; (try with_reducible rfl))
                simp only [Act.put, List.setIfInBounds_toArray, List.set_cons_zero, List.set_cons_succ]
                refine take_first 16 51 (v := ?vrb_17) rfl rfl (by kernel_rfl) (by kernel_rfl) (by kernel_rfl) (fun _ _ _ h => h) (by rfl) ?yrb_17 (by assumption) ?rrb_17
                case yrb_17 => (intro w hSw; (try dsimp only at hSw); go_simp; (try with_reducible rfl))
                simp only [Act.put, List.setIfInBounds_toArray, List.set_cons_zero, List.set_cons_succ]
                refine take_first 17 52 (v := ?vrb_18) rfl rfl (by kernel_rfl) (by kernel_rfl) (by kernel_rfl) (fun _ _ _ h => h) (by rfl) ?yrb_18 (by assumption) ?rrb_18
                case yrb_18 => (intro w hSw; (try dsimp only at hSw); go_simp; (try with_reducible rfl))
                simp only [Act.put, List.setIfInBounds_toArray, List.set_cons_zero, List.set_cons_succ]
                refine take_first 18 53 (v := ?vrb_19) rfl rfl (by kernel_rfl) (by kernel_rfl) (by kernel_rfl) (fun _ _ _ h => h) (by rfl) ?yrb_19 (by assumption) ?rrb_19
                case yrb_19 => (intro w hSw; (try dsimp only at hSw); go_simp; (try with_reducible rfl))
                simp only [Act.put, List.setIfInBounds_toArray, List.set_cons_zero, List.set_cons_succ]
                refine wpAnyH_ready (rs := [19]) (by kernel_rfl) (by simp) ?_
                refine AllReadyH.cons (o := _) rfl (fun Krb_20 hKrb_20 => ?crb_20) ?mrb_20
                case mrb_20 => exact AllReadyH.nil
                go_simp
                have HA := lastKind_any _ _ L x.disk.notes y.tx (HRg.out _ (HGo.out _ HWb.out)); unfold ptr at HA; refine HA.mono ?_; rintro e wa ⟨rfl, hba⟩; have HWe := Lib.hid (HWb.out.trans (hba.mono HWb.out.size)); replace k0 := HAl.out _ HWe.out; clear hba HA
                go_wp2_with fail
                refine hKrb_20.out _ _ ?krb_20 (fun hHeldrb_20 => ?drb_20)
                case krb_20 => (first | (dsimp only; (first | with_reducible exact k0 | exact k0)) | (first | with_reducible exact k0 | exact k0))
                clear hKrb_20 Krb_20
                refine take_first 20 55 (v := ?vrb_21) rfl rfl (by kernel_rfl) (by kernel_rfl) (by kernel_rfl) (fun _ _ _ h => h) (by rfl) ?yrb_21 (by assumption) ?rrb_21
                case yrb_21 => (intro w hSw; (try dsimp only at hSw); go_simp; (try with_reducible rfl))
                simp only [Act.put, List.setIfInBounds_toArray, List.set_cons_zero, List.set_cons_succ]
                refine wpAnyH_ready (rs := [21]) (by kernel_rfl) (by simp) ?_
                refine AllReadyH.cons (o := _) rfl (fun Krb_22 hKrb_22 => ?crb_22) ?mrb_22
                case mrb_22 => exact AllReadyH.nil
                go_simp
                refine (activeOk_any _ _ y _ (HFr.out _ HWe.out)).mono ?_; rintro e wc ⟨rfl, hbc⟩; rw [hact]; have HWf := Lib.hid (HWe.out.trans (hbc.mono HWe.out.size)); replace k0 := HAl.out _ HWf.out; clear hbc
                go_wp2_with fail
                refine hKrb_22.out _ _ ?krb_22 (fun hHeldrb_22 => ?drb_22)
                case krb_22 => (first | (dsimp only; (first | with_reducible exact k0 | exact k0)) | (first | with_reducible exact k0 | exact k0))
                clear hKrb_22 Krb_22
                refine take_first 22 57 (v := ?vrb_23) rfl rfl (by kernel_rfl) (by kernel_rfl) (by kernel_rfl) (fun _ _ _ h => h) (by rfl) ?yrb_23 (by assumption) ?rrb_23
                case yrb_23 => (intro w hSw; (try dsimp only at hSw); go_simp; (try with_reducible rfl))
                simp only [Act.put, List.setIfInBounds_toArray, List.set_cons_zero, List.set_cons_succ]
                refine take_first 23 58 (v := ?vrb_24) rfl rfl (by kernel_rfl) (by kernel_rfl) (by kernel_rfl) (fun _ _ _ h => h) (by rfl) ?yrb_24 (by assumption) ?rrb_24
                case yrb_24 => (intro w hSw; (try dsimp only at hSw); go_simp; (try with_reducible rfl))
                simp only [Act.put, List.setIfInBounds_toArray, List.set_cons_zero, List.set_cons_succ]
                refine wpAnyH_done (by kernel_rfl) ?erb _
                clear k0
                have HBz := Lib.hid (HGo.out _ HWf.out)
                go_wp2
                go_roundw
                case rel => exact ⟨0 + 1, by omega, by go_num, HSt.out, HBz.out⟩
                case measure => simp [intOf]; omega
            · obtain ⟨j, hj⟩ : ∃ j, k = j + 1 := ⟨k - 1, by omega⟩
              obtain ⟨z, hz⟩ : ∃ z, x.way[j]? = some z := ⟨_, List.getElem?_eq_getElem (by omega)⟩
              have hsub : (k : Int) - 1 = (j : Int) := by omega
              have hwj : IntKind.i64.wrap (j : Int) = (j : Int) := IntWalk.i64_in _ (by omega)
              have hji : (j : Int) < (x.way.length : Int) := by omega
              have hj0 : (0 : Int) ≤ (j : Int) := by omega
              have hk1 : (0 : Int) < (k : Int) := by omega
              have hk2 : 0 < k := by omega
              have HPv := Lib.hid (show pvT x.way k = z.tx by rw [hj]; exact pvT_next hz)
              have HZj := Lib.hid hz
              have k0 := And.intro (HTp.out _ HWb.out j z hz) (HAl.out _ HWb.out)
              clear hj h0 hz
              by_cases hge : y.tx ≤ z.tx
              · have HNo := Lib.hid (show froB x = false from fro_false (.inr (.inr (.inr (by rw [HI.out, HW.out, HPv.out, show decide (z.tx < y.tx) = false by simp; omega]; simp)))))
                refine wp_region_held_drew (S := (fun w' => w'.cell? ⟨bw, ow + j * 11, none⟩ = some (.int .i64 z.tx) ∧ w'.cell? ⟨w.heap.size, 2, none⟩ = some (.slice (some ⟨bw, ow, none⟩) x.way.length cw) ∧ w'.cell? ⟨w3.heap.size, 0, none⟩ = some (.pointer (some ⟨at_ L 0, 0, none⟩)) ∧ w'.cell? ⟨wr.heap.size, 0, none⟩ = some (.int .i64 y.tx) ∧ w'.cell? ⟨wr.heap.size, 1, none⟩ = some (.int .i64 y.op.kind) ∧ w'.cell? ⟨wr.heap.size, 2, none⟩ = some (.int .i64 y.op.who) ∧ w'.cell? ⟨wr.heap.size, 3, none⟩ = some (.int .i64 y.op.inn) ∧ w'.cell? ⟨wr.heap.size, 4, none⟩ = some (.int .i64 y.op.code) ∧ w'.cell? ⟨wr.heap.size, 5, none⟩ = some (.int .i64 y.op.sec) ∧ w'.cell? ⟨wr.heap.size, 6, none⟩ = some (.int .i64 y.op.fam) ∧ w'.cell? ⟨wr.heap.size, 7, none⟩ = some (.int .i64 y.op.gen) ∧ w'.cell? ⟨wr.heap.size, 8, none⟩ = some (.bool y.yes) ∧ w'.cell? ⟨wr.heap.size, 9, none⟩ = some (.slice Ac y.can.length cc) ∧ w'.cell? ⟨wr.heap.size, 10, none⟩ = some (.slice Ak y.know.length ck))) (by kernel_rfl) ?hSrc (fun hHeldrc => ?strc)
                case hSrc => (first | (dsimp only; (first | with_reducible exact k0 | exact k0)) | (first | with_reducible exact k0 | exact k0))
                refine take_first 0 35 (v := ?vrc_1) rfl rfl (by kernel_rfl) (by kernel_rfl) (by kernel_rfl) (fun _ _ _ h => h) (by rfl) ?yrc_1 (by assumption) ?rrc_1
                case yrc_1 => (intro w hSw; (try dsimp only at hSw); go_simp; (try with_reducible rfl))
                simp only [Act.put, List.setIfInBounds_toArray, List.set_cons_zero, List.set_cons_succ]
                refine take_first 1 36 (v := ?vrc_2) rfl rfl (by kernel_rfl) (by kernel_rfl) (by kernel_rfl) (fun _ _ _ h => h) (by rfl) ?yrc_2 (by assumption) ?rrc_2
                case yrc_2 => (intro w hSw; (try dsimp only at hSw); go_simp; (try with_reducible rfl))
                simp only [Act.put, List.setIfInBounds_toArray, List.set_cons_zero, List.set_cons_succ]
                refine take_first 2 37 (v := ?vrc_3) rfl rfl (by kernel_rfl) (by kernel_rfl) (by kernel_rfl) (fun _ _ _ h => h) (by rfl) ?yrc_3 (by assumption) ?rrc_3
                case yrc_3 => (intro w hSw; (try dsimp only at hSw); go_simp; (try with_reducible rfl))
                simp only [Act.put, List.setIfInBounds_toArray, List.set_cons_zero, List.set_cons_succ]
                refine take_first 3 38 (v := ?vrc_4) rfl rfl (by kernel_rfl) (by kernel_rfl) (by kernel_rfl) (fun _ _ _ h => h) (by rfl) ?yrc_4 (by assumption) ?rrc_4
                case yrc_4 => (intro w hSw; (try dsimp only at hSw); go_simp; (try with_reducible rfl))
                simp only [Act.put, List.setIfInBounds_toArray, List.set_cons_zero, List.set_cons_succ]
                refine take_first 4 39 (v := ?vrc_5) rfl rfl (by kernel_rfl) (by kernel_rfl) (by kernel_rfl) (fun _ _ _ h => h) (by rfl) ?yrc_5 (by assumption) ?rrc_5
                case yrc_5 => (intro w hSw; (try dsimp only at hSw); go_simp; (try with_reducible rfl))
                simp only [Act.put, List.setIfInBounds_toArray, List.set_cons_zero, List.set_cons_succ]
                refine take_first 5 40 (v := ?vrc_6) rfl rfl (by kernel_rfl) (by kernel_rfl) (by kernel_rfl) (fun _ _ _ h => h) (by rfl) ?yrc_6 (by assumption) ?rrc_6
                case yrc_6 => (intro w hSw; (try dsimp only at hSw); go_simp; (try with_reducible rfl))
                simp only [Act.put, List.setIfInBounds_toArray, List.set_cons_zero, List.set_cons_succ]
                refine take_first 6 41 (v := ?vrc_7) rfl rfl (by kernel_rfl) (by kernel_rfl) (by kernel_rfl) (fun _ _ _ h => h) (by rfl) ?yrc_7 (by assumption) ?rrc_7
                case yrc_7 => (intro w hSw; (try dsimp only at hSw); go_simp; (try with_reducible rfl))
                simp only [Act.put, List.setIfInBounds_toArray, List.set_cons_zero, List.set_cons_succ]
                refine take_first 7 42 (v := ?vrc_8) rfl rfl (by kernel_rfl) (by kernel_rfl) (by kernel_rfl) (fun _ _ _ h => h) (by rfl) ?yrc_8 (by assumption) ?rrc_8
                case yrc_8 => (intro w hSw; (try dsimp only at hSw); go_simp; (try with_reducible rfl))
                simp only [Act.put, List.setIfInBounds_toArray, List.set_cons_zero, List.set_cons_succ]
                refine take_first 8 43 (v := ?vrc_9) rfl rfl (by kernel_rfl) (by kernel_rfl) (by kernel_rfl) (fun _ _ _ h => h) (by rfl) ?yrc_9 (by assumption) ?rrc_9
                case yrc_9 => (intro w hSw; (try dsimp only at hSw); go_simp; (try with_reducible rfl))
                simp only [Act.put, List.setIfInBounds_toArray, List.set_cons_zero, List.set_cons_succ]
                refine take_first 9 44 (v := ?vrc_10) rfl rfl (by kernel_rfl) (by kernel_rfl) (by kernel_rfl) (fun _ _ _ h => h) (by rfl) ?yrc_10 (by assumption) ?rrc_10
                case yrc_10 => (intro w hSw; (try dsimp only at hSw); go_simp; (try with_reducible rfl))
                simp only [Act.put, List.setIfInBounds_toArray, List.set_cons_zero, List.set_cons_succ]
                refine take_first 10 45 (v := ?vrc_11) rfl rfl (by kernel_rfl) (by kernel_rfl) (by kernel_rfl) (fun _ _ _ h => h) (by rfl) ?yrc_11 (by assumption) ?rrc_11
                case yrc_11 => (intro w hSw; (try dsimp only at hSw); go_simp; (try with_reducible rfl))
                simp only [Act.put, List.setIfInBounds_toArray, List.set_cons_zero, List.set_cons_succ]
                refine take_first 11 46 (v := ?vrc_12) rfl rfl (by kernel_rfl) (by kernel_rfl) (by kernel_rfl) (fun _ _ _ h => h) (by rfl) ?yrc_12 (by assumption) ?rrc_12
                case yrc_12 => (intro w hSw; (try dsimp only at hSw); go_simp; (try with_reducible rfl))
                simp only [Act.put, List.setIfInBounds_toArray, List.set_cons_zero, List.set_cons_succ]
                refine take_first 12 47 (v := ?vrc_13) rfl rfl (by kernel_rfl) (by kernel_rfl) (by kernel_rfl) (fun _ _ _ h => h) (by rfl) ?yrc_13 (by assumption) ?rrc_13
                case yrc_13 => (intro w hSw; (try dsimp only at hSw); go_simp; (try with_reducible rfl))
                simp only [Act.put, List.setIfInBounds_toArray, List.set_cons_zero, List.set_cons_succ]
                refine take_first 13 48 (v := ?vrc_14) rfl rfl (by kernel_rfl) (by kernel_rfl) (by kernel_rfl) (fun _ _ _ h => h) (by rfl) ?yrc_14 (by assumption) ?rrc_14
                case yrc_14 => (intro w hSw; (try dsimp only at hSw); go_simp; (try with_reducible rfl))
                simp only [Act.put, List.setIfInBounds_toArray, List.set_cons_zero, List.set_cons_succ]
                refine take_first 14 49 (v := ?vrc_15) rfl rfl (by kernel_rfl) (by kernel_rfl) (by kernel_rfl) (fun _ _ _ h => h) (by rfl) ?yrc_15 (by assumption) ?rrc_15
                case yrc_15 => (intro w hSw; (try dsimp only at hSw); go_simp; (try with_reducible rfl))
                simp only [Act.put, List.setIfInBounds_toArray, List.set_cons_zero, List.set_cons_succ]
                refine pass_over 15 50 rfl rfl (by kernel_rfl) (by kernel_rfl) (by kernel_rfl) (fun _ _ _ h => h) (by rfl) (by assumption) ?rrc_16
                simp only [Act.put, List.setIfInBounds_toArray, List.set_cons_zero, List.set_cons_succ]
                refine pass_over 16 51 rfl rfl (by kernel_rfl) (by kernel_rfl) (by kernel_rfl) (fun _ _ _ h => h) (by rfl) (by assumption) ?rrc_17
                simp only [Act.put, List.setIfInBounds_toArray, List.set_cons_zero, List.set_cons_succ]
                refine pass_over 17 52 rfl rfl (by kernel_rfl) (by kernel_rfl) (by kernel_rfl) (fun _ _ _ h => h) (by rfl) (by assumption) ?rrc_18
                simp only [Act.put, List.setIfInBounds_toArray, List.set_cons_zero, List.set_cons_succ]
                refine pass_over 18 53 rfl rfl (by kernel_rfl) (by kernel_rfl) (by kernel_rfl) (fun _ _ _ h => h) (by rfl) (by assumption) ?rrc_19
                simp only [Act.put, List.setIfInBounds_toArray, List.set_cons_zero, List.set_cons_succ]
                refine pass_over 19 54 rfl rfl (by kernel_rfl) (by kernel_rfl) (by kernel_rfl) (fun _ _ _ h => h) (by rfl) (by assumption) ?rrc_20
                simp only [Act.put, List.setIfInBounds_toArray, List.set_cons_zero, List.set_cons_succ]
                refine pass_over 20 55 rfl rfl (by kernel_rfl) (by kernel_rfl) (by kernel_rfl) (fun _ _ _ h => h) (by rfl) (by assumption) ?rrc_21
                simp only [Act.put, List.setIfInBounds_toArray, List.set_cons_zero, List.set_cons_succ]
                refine pass_over 21 56 rfl rfl (by kernel_rfl) (by kernel_rfl) (by kernel_rfl) (fun _ _ _ h => h) (by rfl) (by assumption) ?rrc_22
                simp only [Act.put, List.setIfInBounds_toArray, List.set_cons_zero, List.set_cons_succ]
                refine pass_over 22 57 rfl rfl (by kernel_rfl) (by kernel_rfl) (by kernel_rfl) (fun _ _ _ h => h) (by rfl) (by assumption) ?rrc_23
                simp only [Act.put, List.setIfInBounds_toArray, List.set_cons_zero, List.set_cons_succ]
                refine take_first 23 58 (v := ?vrc_24) rfl rfl (by kernel_rfl) (by kernel_rfl) (by kernel_rfl) (fun _ _ _ h => h) (by rfl) ?yrc_24 (by assumption) ?rrc_24
                case yrc_24 => (intro w hSw; (try dsimp only at hSw); go_simp; (try with_reducible rfl))
                simp only [Act.put, List.setIfInBounds_toArray, List.set_cons_zero, List.set_cons_succ]
                refine wpAnyH_done (by kernel_rfl) ?erc _
                clear k0
                have HBz := Lib.hid (HYr.out _ (HGo.out _ HWb.out)).2
                go_wp2
                go_ret
                exact ⟨ret_bool HNo.out.symm, HBz.out⟩
              · have hlt2 : z.tx < y.tx := by omega
                cases hact : actB y (lastK x.disk.notes y.tx == 2) with
                | false =>
                  have HNo := Lib.hid (show froB x = false from fro_false (.inr (.inr (.inr (by rw [HI.out, HW.out, hact]; rfl)))))
                  clear hlt2
                  refine wp_region_held_drew (S := (fun w' => w'.cell? ⟨bw, ow + j * 11, none⟩ = some (.int .i64 z.tx) ∧ w'.cell? ⟨w.heap.size, 2, none⟩ = some (.slice (some ⟨bw, ow, none⟩) x.way.length cw) ∧ w'.cell? ⟨w3.heap.size, 0, none⟩ = some (.pointer (some ⟨at_ L 0, 0, none⟩)) ∧ w'.cell? ⟨wr.heap.size, 0, none⟩ = some (.int .i64 y.tx) ∧ w'.cell? ⟨wr.heap.size, 1, none⟩ = some (.int .i64 y.op.kind) ∧ w'.cell? ⟨wr.heap.size, 2, none⟩ = some (.int .i64 y.op.who) ∧ w'.cell? ⟨wr.heap.size, 3, none⟩ = some (.int .i64 y.op.inn) ∧ w'.cell? ⟨wr.heap.size, 4, none⟩ = some (.int .i64 y.op.code) ∧ w'.cell? ⟨wr.heap.size, 5, none⟩ = some (.int .i64 y.op.sec) ∧ w'.cell? ⟨wr.heap.size, 6, none⟩ = some (.int .i64 y.op.fam) ∧ w'.cell? ⟨wr.heap.size, 7, none⟩ = some (.int .i64 y.op.gen) ∧ w'.cell? ⟨wr.heap.size, 8, none⟩ = some (.bool y.yes) ∧ w'.cell? ⟨wr.heap.size, 9, none⟩ = some (.slice Ac y.can.length cc) ∧ w'.cell? ⟨wr.heap.size, 10, none⟩ = some (.slice Ak y.know.length ck))) (by kernel_rfl) ?hSrd (fun hHeldrd => ?strd)
                  case hSrd => (first | (dsimp only; (first | with_reducible exact k0 | exact k0)) | (first | with_reducible exact k0 | exact k0))
                  refine take_first 0 35 (v := ?vrd_1) rfl rfl (by kernel_rfl) (by kernel_rfl) (by kernel_rfl) (fun _ _ _ h => h) (by rfl) ?yrd_1 (by assumption) ?rrd_1
                  case yrd_1 => (intro w hSw; (try dsimp only at hSw); go_simp; (try with_reducible rfl))
                  simp only [Act.put, List.setIfInBounds_toArray, List.set_cons_zero, List.set_cons_succ]
                  refine take_first 1 36 (v := ?vrd_2) rfl rfl (by kernel_rfl) (by kernel_rfl) (by kernel_rfl) (fun _ _ _ h => h) (by rfl) ?yrd_2 (by assumption) ?rrd_2
                  case yrd_2 => (intro w hSw; (try dsimp only at hSw); go_simp; (try with_reducible rfl))
                  simp only [Act.put, List.setIfInBounds_toArray, List.set_cons_zero, List.set_cons_succ]
                  refine take_first 2 37 (v := ?vrd_3) rfl rfl (by kernel_rfl) (by kernel_rfl) (by kernel_rfl) (fun _ _ _ h => h) (by rfl) ?yrd_3 (by assumption) ?rrd_3
                  case yrd_3 => (intro w hSw; (try dsimp only at hSw); go_simp; (try with_reducible rfl))
                  simp only [Act.put, List.setIfInBounds_toArray, List.set_cons_zero, List.set_cons_succ]
                  refine take_first 3 38 (v := ?vrd_4) rfl rfl (by kernel_rfl) (by kernel_rfl) (by kernel_rfl) (fun _ _ _ h => h) (by rfl) ?yrd_4 (by assumption) ?rrd_4
                  case yrd_4 => (intro w hSw; (try dsimp only at hSw); go_simp; (try with_reducible rfl))
                  simp only [Act.put, List.setIfInBounds_toArray, List.set_cons_zero, List.set_cons_succ]
                  refine take_first 4 39 (v := ?vrd_5) rfl rfl (by kernel_rfl) (by kernel_rfl) (by kernel_rfl) (fun _ _ _ h => h) (by rfl) ?yrd_5 (by assumption) ?rrd_5
                  case yrd_5 => (intro w hSw; (try dsimp only at hSw); go_simp; (try with_reducible rfl))
                  simp only [Act.put, List.setIfInBounds_toArray, List.set_cons_zero, List.set_cons_succ]
                  refine take_first 5 40 (v := ?vrd_6) rfl rfl (by kernel_rfl) (by kernel_rfl) (by kernel_rfl) (fun _ _ _ h => h) (by rfl) ?yrd_6 (by assumption) ?rrd_6
                  case yrd_6 => (intro w hSw; (try dsimp only at hSw); go_simp; (try with_reducible rfl))
                  simp only [Act.put, List.setIfInBounds_toArray, List.set_cons_zero, List.set_cons_succ]
                  refine take_first 6 41 (v := ?vrd_7) rfl rfl (by kernel_rfl) (by kernel_rfl) (by kernel_rfl) (fun _ _ _ h => h) (by rfl) ?yrd_7 (by assumption) ?rrd_7
                  case yrd_7 => (intro w hSw; (try dsimp only at hSw); go_simp; (try with_reducible rfl))
                  simp only [Act.put, List.setIfInBounds_toArray, List.set_cons_zero, List.set_cons_succ]
                  refine take_first 7 42 (v := ?vrd_8) rfl rfl (by kernel_rfl) (by kernel_rfl) (by kernel_rfl) (fun _ _ _ h => h) (by rfl) ?yrd_8 (by assumption) ?rrd_8
                  case yrd_8 => (intro w hSw; (try dsimp only at hSw); go_simp; (try with_reducible rfl))
                  simp only [Act.put, List.setIfInBounds_toArray, List.set_cons_zero, List.set_cons_succ]
                  refine take_first 8 43 (v := ?vrd_9) rfl rfl (by kernel_rfl) (by kernel_rfl) (by kernel_rfl) (fun _ _ _ h => h) (by rfl) ?yrd_9 (by assumption) ?rrd_9
                  case yrd_9 => (intro w hSw; (try dsimp only at hSw); go_simp; (try with_reducible rfl))
                  simp only [Act.put, List.setIfInBounds_toArray, List.set_cons_zero, List.set_cons_succ]
                  refine take_first 9 44 (v := ?vrd_10) rfl rfl (by kernel_rfl) (by kernel_rfl) (by kernel_rfl) (fun _ _ _ h => h) (by rfl) ?yrd_10 (by assumption) ?rrd_10
                  case yrd_10 => (intro w hSw; (try dsimp only at hSw); go_simp; (try with_reducible rfl))
                  simp only [Act.put, List.setIfInBounds_toArray, List.set_cons_zero, List.set_cons_succ]
                  refine take_first 10 45 (v := ?vrd_11) rfl rfl (by kernel_rfl) (by kernel_rfl) (by kernel_rfl) (fun _ _ _ h => h) (by rfl) ?yrd_11 (by assumption) ?rrd_11
                  case yrd_11 => (intro w hSw; (try dsimp only at hSw); go_simp; (try with_reducible rfl))
                  simp only [Act.put, List.setIfInBounds_toArray, List.set_cons_zero, List.set_cons_succ]
                  refine take_first 11 46 (v := ?vrd_12) rfl rfl (by kernel_rfl) (by kernel_rfl) (by kernel_rfl) (fun _ _ _ h => h) (by rfl) ?yrd_12 (by assumption) ?rrd_12
                  case yrd_12 => (intro w hSw; (try dsimp only at hSw); go_simp; (try with_reducible rfl))
                  simp only [Act.put, List.setIfInBounds_toArray, List.set_cons_zero, List.set_cons_succ]
                  refine take_first 12 47 (v := ?vrd_13) rfl rfl (by kernel_rfl) (by kernel_rfl) (by kernel_rfl) (fun _ _ _ h => h) (by rfl) ?yrd_13 (by assumption) ?rrd_13
                  case yrd_13 => (intro w hSw; (try dsimp only at hSw); go_simp; (try with_reducible rfl))
                  simp only [Act.put, List.setIfInBounds_toArray, List.set_cons_zero, List.set_cons_succ]
                  refine take_first 13 48 (v := ?vrd_14) rfl rfl (by kernel_rfl) (by kernel_rfl) (by kernel_rfl) (fun _ _ _ h => h) (by rfl) ?yrd_14 (by assumption) ?rrd_14
                  case yrd_14 => (intro w hSw; (try dsimp only at hSw); go_simp; (try with_reducible rfl))
                  simp only [Act.put, List.setIfInBounds_toArray, List.set_cons_zero, List.set_cons_succ]
                  refine take_first 14 49 (v := ?vrd_15) rfl rfl (by kernel_rfl) (by kernel_rfl) (by kernel_rfl) (fun _ _ _ h => h) (by rfl) ?yrd_15 (by assumption) ?rrd_15
                  case yrd_15 => (intro w hSw; (try dsimp only at hSw); go_simp; (try with_reducible rfl))
                  simp only [Act.put, List.setIfInBounds_toArray, List.set_cons_zero, List.set_cons_succ]
                  refine take_first 15 50 (v := ?vrd_16) rfl rfl (by kernel_rfl) (by kernel_rfl) (by kernel_rfl) (fun _ _ _ h => h) (by rfl) ?yrd_16 (by assumption) ?rrd_16
                  case yrd_16 => (intro w hSw; (try dsimp only at hSw); go_simp; (try with_reducible rfl))
                  simp only [Act.put, List.setIfInBounds_toArray, List.set_cons_zero, List.set_cons_succ]
                  refine take_first 16 51 (v := ?vrd_17) rfl rfl (by kernel_rfl) (by kernel_rfl) (by kernel_rfl) (fun _ _ _ h => h) (by rfl) ?yrd_17 (by assumption) ?rrd_17
                  case yrd_17 => (intro w hSw; (try dsimp only at hSw); go_simp; (try with_reducible rfl))
                  simp only [Act.put, List.setIfInBounds_toArray, List.set_cons_zero, List.set_cons_succ]
                  refine take_first 17 52 (v := ?vrd_18) rfl rfl (by kernel_rfl) (by kernel_rfl) (by kernel_rfl) (fun _ _ _ h => h) (by rfl) ?yrd_18 (by assumption) ?rrd_18
                  case yrd_18 => (intro w hSw; (try dsimp only at hSw); go_simp; (try with_reducible rfl))
                  simp only [Act.put, List.setIfInBounds_toArray, List.set_cons_zero, List.set_cons_succ]
                  refine take_first 18 53 (v := ?vrd_19) rfl rfl (by kernel_rfl) (by kernel_rfl) (by kernel_rfl) (fun _ _ _ h => h) (by rfl) ?yrd_19 (by assumption) ?rrd_19
                  case yrd_19 => (intro w hSw; (try dsimp only at hSw); go_simp; (try with_reducible rfl))
                  simp only [Act.put, List.setIfInBounds_toArray, List.set_cons_zero, List.set_cons_succ]
                  refine wpAnyH_ready (rs := [19]) (by kernel_rfl) (by simp) ?_
                  refine AllReadyH.cons (o := _) rfl (fun Krd_20 hKrd_20 => ?crd_20) ?mrd_20
                  case mrd_20 => exact AllReadyH.nil
                  go_simp
                  have HA := lastKind_any _ _ L x.disk.notes y.tx (HRg.out _ (HGo.out _ HWb.out)); unfold ptr at HA; refine HA.mono ?_; rintro e wa ⟨rfl, hba⟩; have HWe := Lib.hid (HWb.out.trans (hba.mono HWb.out.size)); replace k0 := And.intro (HTp.out _ HWe.out j z HZj.out) (HAl.out _ HWe.out); clear hba HA
                  go_wp2_with fail
                  refine hKrd_20.out _ _ ?krd_20 (fun hHeldrd_20 => ?drd_20)
                  case krd_20 => (first | (dsimp only; (first | with_reducible exact k0 | exact k0)) | (first | with_reducible exact k0 | exact k0))
                  clear hKrd_20 Krd_20
                  refine take_first 20 55 (v := ?vrd_21) rfl rfl (by kernel_rfl) (by kernel_rfl) (by kernel_rfl) (fun _ _ _ h => h) (by rfl) ?yrd_21 (by assumption) ?rrd_21
                  case yrd_21 => (intro w hSw; (try dsimp only at hSw); go_simp; (try with_reducible rfl))
                  simp only [Act.put, List.setIfInBounds_toArray, List.set_cons_zero, List.set_cons_succ]
                  refine wpAnyH_ready (rs := [21]) (by kernel_rfl) (by simp) ?_
                  refine AllReadyH.cons (o := _) rfl (fun Krd_22 hKrd_22 => ?crd_22) ?mrd_22
                  case mrd_22 => exact AllReadyH.nil
                  go_simp
                  refine (activeOk_any _ _ y _ (HFr.out _ HWe.out)).mono ?_; rintro e wc ⟨rfl, hbc⟩; rw [hact]; have HWf := Lib.hid (HWe.out.trans (hbc.mono HWe.out.size)); replace k0 := And.intro (HTp.out _ HWf.out j z HZj.out) (HAl.out _ HWf.out); clear hbc
                  go_wp2_with fail
                  refine hKrd_22.out _ _ ?krd_22 (fun hHeldrd_22 => ?drd_22)
                  case krd_22 => (first | (dsimp only; (first | with_reducible exact k0 | exact k0)) | (first | with_reducible exact k0 | exact k0))
                  clear hKrd_22 Krd_22
                  refine take_first 22 57 (v := ?vrd_23) rfl rfl (by kernel_rfl) (by kernel_rfl) (by kernel_rfl) (fun _ _ _ h => h) (by rfl) ?yrd_23 (by assumption) ?rrd_23
                  case yrd_23 => (intro w hSw; (try dsimp only at hSw); go_simp; (try with_reducible rfl))
                  simp only [Act.put, List.setIfInBounds_toArray, List.set_cons_zero, List.set_cons_succ]
                  refine take_first 23 58 (v := ?vrd_24) rfl rfl (by kernel_rfl) (by kernel_rfl) (by kernel_rfl) (fun _ _ _ h => h) (by rfl) ?yrd_24 (by assumption) ?rrd_24
                  case yrd_24 => (intro w hSw; (try dsimp only at hSw); go_simp; (try with_reducible rfl))
                  simp only [Act.put, List.setIfInBounds_toArray, List.set_cons_zero, List.set_cons_succ]
                  refine wpAnyH_done (by kernel_rfl) ?erd _
                  clear k0
                  have HBz := Lib.hid (HYr.out _ (HGo.out _ HWf.out)).2
                  go_wp2
                  go_ret
                  exact ⟨ret_bool HNo.out.symm, HBz.out⟩
                | true =>
                  have HSt := Lib.hid (show wayB x.disk.notes (-1) x.way = wayB x.disk.notes (pvT x.way (k + 1)) (x.way.drop (k + 1)) by
                    rw [HI.out, HW.out, hact, HPv.out, show decide (z.tx < y.tx) = true by simp; omega]; rfl)
                  clear hlt2
                  refine wp_region_held_drew (S := (fun w' => w'.cell? ⟨bw, ow + j * 11, none⟩ = some (.int .i64 z.tx) ∧ w'.cell? ⟨w.heap.size, 2, none⟩ = some (.slice (some ⟨bw, ow, none⟩) x.way.length cw) ∧ w'.cell? ⟨w3.heap.size, 0, none⟩ = some (.pointer (some ⟨at_ L 0, 0, none⟩)) ∧ w'.cell? ⟨wr.heap.size, 0, none⟩ = some (.int .i64 y.tx) ∧ w'.cell? ⟨wr.heap.size, 1, none⟩ = some (.int .i64 y.op.kind) ∧ w'.cell? ⟨wr.heap.size, 2, none⟩ = some (.int .i64 y.op.who) ∧ w'.cell? ⟨wr.heap.size, 3, none⟩ = some (.int .i64 y.op.inn) ∧ w'.cell? ⟨wr.heap.size, 4, none⟩ = some (.int .i64 y.op.code) ∧ w'.cell? ⟨wr.heap.size, 5, none⟩ = some (.int .i64 y.op.sec) ∧ w'.cell? ⟨wr.heap.size, 6, none⟩ = some (.int .i64 y.op.fam) ∧ w'.cell? ⟨wr.heap.size, 7, none⟩ = some (.int .i64 y.op.gen) ∧ w'.cell? ⟨wr.heap.size, 8, none⟩ = some (.bool y.yes) ∧ w'.cell? ⟨wr.heap.size, 9, none⟩ = some (.slice Ac y.can.length cc) ∧ w'.cell? ⟨wr.heap.size, 10, none⟩ = some (.slice Ak y.know.length ck))) (by kernel_rfl) ?hSre (fun hHeldre => ?stre)
                  case hSre => (first | (dsimp only; (first | with_reducible exact k0 | exact k0)) | (first | with_reducible exact k0 | exact k0))
                  refine take_first 0 35 (v := ?vre_1) rfl rfl (by kernel_rfl) (by kernel_rfl) (by kernel_rfl) (fun _ _ _ h => h) (by rfl) ?yre_1 (by assumption) ?rre_1
                  case yre_1 => (intro w hSw; (try dsimp only at hSw); go_simp; (try with_reducible rfl))
                  simp only [Act.put, List.setIfInBounds_toArray, List.set_cons_zero, List.set_cons_succ]
                  refine take_first 1 36 (v := ?vre_2) rfl rfl (by kernel_rfl) (by kernel_rfl) (by kernel_rfl) (fun _ _ _ h => h) (by rfl) ?yre_2 (by assumption) ?rre_2
                  case yre_2 => (intro w hSw; (try dsimp only at hSw); go_simp; (try with_reducible rfl))
                  simp only [Act.put, List.setIfInBounds_toArray, List.set_cons_zero, List.set_cons_succ]
                  refine take_first 2 37 (v := ?vre_3) rfl rfl (by kernel_rfl) (by kernel_rfl) (by kernel_rfl) (fun _ _ _ h => h) (by rfl) ?yre_3 (by assumption) ?rre_3
                  case yre_3 => (intro w hSw; (try dsimp only at hSw); go_simp; (try with_reducible rfl))
                  simp only [Act.put, List.setIfInBounds_toArray, List.set_cons_zero, List.set_cons_succ]
                  refine take_first 3 38 (v := ?vre_4) rfl rfl (by kernel_rfl) (by kernel_rfl) (by kernel_rfl) (fun _ _ _ h => h) (by rfl) ?yre_4 (by assumption) ?rre_4
                  case yre_4 => (intro w hSw; (try dsimp only at hSw); go_simp; (try with_reducible rfl))
                  simp only [Act.put, List.setIfInBounds_toArray, List.set_cons_zero, List.set_cons_succ]
                  refine take_first 4 39 (v := ?vre_5) rfl rfl (by kernel_rfl) (by kernel_rfl) (by kernel_rfl) (fun _ _ _ h => h) (by rfl) ?yre_5 (by assumption) ?rre_5
                  case yre_5 => (intro w hSw; (try dsimp only at hSw); go_simp; (try with_reducible rfl))
                  simp only [Act.put, List.setIfInBounds_toArray, List.set_cons_zero, List.set_cons_succ]
                  refine take_first 5 40 (v := ?vre_6) rfl rfl (by kernel_rfl) (by kernel_rfl) (by kernel_rfl) (fun _ _ _ h => h) (by rfl) ?yre_6 (by assumption) ?rre_6
                  case yre_6 => (intro w hSw; (try dsimp only at hSw); go_simp; (try with_reducible rfl))
                  simp only [Act.put, List.setIfInBounds_toArray, List.set_cons_zero, List.set_cons_succ]
                  refine take_first 6 41 (v := ?vre_7) rfl rfl (by kernel_rfl) (by kernel_rfl) (by kernel_rfl) (fun _ _ _ h => h) (by rfl) ?yre_7 (by assumption) ?rre_7
                  case yre_7 => (intro w hSw; (try dsimp only at hSw); go_simp; (try with_reducible rfl))
                  simp only [Act.put, List.setIfInBounds_toArray, List.set_cons_zero, List.set_cons_succ]
                  refine take_first 7 42 (v := ?vre_8) rfl rfl (by kernel_rfl) (by kernel_rfl) (by kernel_rfl) (fun _ _ _ h => h) (by rfl) ?yre_8 (by assumption) ?rre_8
                  case yre_8 => (intro w hSw; (try dsimp only at hSw); go_simp; (try with_reducible rfl))
                  simp only [Act.put, List.setIfInBounds_toArray, List.set_cons_zero, List.set_cons_succ]
                  refine take_first 8 43 (v := ?vre_9) rfl rfl (by kernel_rfl) (by kernel_rfl) (by kernel_rfl) (fun _ _ _ h => h) (by rfl) ?yre_9 (by assumption) ?rre_9
                  case yre_9 => (intro w hSw; (try dsimp only at hSw); go_simp; (try with_reducible rfl))
                  simp only [Act.put, List.setIfInBounds_toArray, List.set_cons_zero, List.set_cons_succ]
                  refine take_first 9 44 (v := ?vre_10) rfl rfl (by kernel_rfl) (by kernel_rfl) (by kernel_rfl) (fun _ _ _ h => h) (by rfl) ?yre_10 (by assumption) ?rre_10
                  case yre_10 => (intro w hSw; (try dsimp only at hSw); go_simp; (try with_reducible rfl))
                  simp only [Act.put, List.setIfInBounds_toArray, List.set_cons_zero, List.set_cons_succ]
                  refine take_first 10 45 (v := ?vre_11) rfl rfl (by kernel_rfl) (by kernel_rfl) (by kernel_rfl) (fun _ _ _ h => h) (by rfl) ?yre_11 (by assumption) ?rre_11
                  case yre_11 => (intro w hSw; (try dsimp only at hSw); go_simp; (try with_reducible rfl))
                  simp only [Act.put, List.setIfInBounds_toArray, List.set_cons_zero, List.set_cons_succ]
                  refine take_first 11 46 (v := ?vre_12) rfl rfl (by kernel_rfl) (by kernel_rfl) (by kernel_rfl) (fun _ _ _ h => h) (by rfl) ?yre_12 (by assumption) ?rre_12
                  case yre_12 => (intro w hSw; (try dsimp only at hSw); go_simp; (try with_reducible rfl))
                  simp only [Act.put, List.setIfInBounds_toArray, List.set_cons_zero, List.set_cons_succ]
                  refine take_first 12 47 (v := ?vre_13) rfl rfl (by kernel_rfl) (by kernel_rfl) (by kernel_rfl) (fun _ _ _ h => h) (by rfl) ?yre_13 (by assumption) ?rre_13
                  case yre_13 => (intro w hSw; (try dsimp only at hSw); go_simp; (try with_reducible rfl))
                  simp only [Act.put, List.setIfInBounds_toArray, List.set_cons_zero, List.set_cons_succ]
                  refine take_first 13 48 (v := ?vre_14) rfl rfl (by kernel_rfl) (by kernel_rfl) (by kernel_rfl) (fun _ _ _ h => h) (by rfl) ?yre_14 (by assumption) ?rre_14
                  case yre_14 => (intro w hSw; (try dsimp only at hSw); go_simp; (try with_reducible rfl))
                  simp only [Act.put, List.setIfInBounds_toArray, List.set_cons_zero, List.set_cons_succ]
                  refine take_first 14 49 (v := ?vre_15) rfl rfl (by kernel_rfl) (by kernel_rfl) (by kernel_rfl) (fun _ _ _ h => h) (by rfl) ?yre_15 (by assumption) ?rre_15
                  case yre_15 => (intro w hSw; (try dsimp only at hSw); go_simp; (try with_reducible rfl))
                  simp only [Act.put, List.setIfInBounds_toArray, List.set_cons_zero, List.set_cons_succ]
                  refine take_first 15 50 (v := ?vre_16) rfl rfl (by kernel_rfl) (by kernel_rfl) (by kernel_rfl) (fun _ _ _ h => h) (by rfl) ?yre_16 (by assumption) ?rre_16
                  case yre_16 => (intro w hSw; (try dsimp only at hSw); go_simp; (try with_reducible rfl))
                  simp only [Act.put, List.setIfInBounds_toArray, List.set_cons_zero, List.set_cons_succ]
                  refine take_first 16 51 (v := ?vre_17) rfl rfl (by kernel_rfl) (by kernel_rfl) (by kernel_rfl) (fun _ _ _ h => h) (by rfl) ?yre_17 (by assumption) ?rre_17
                  case yre_17 => (intro w hSw; (try dsimp only at hSw); go_simp; (try with_reducible rfl))
                  simp only [Act.put, List.setIfInBounds_toArray, List.set_cons_zero, List.set_cons_succ]
                  refine take_first 17 52 (v := ?vre_18) rfl rfl (by kernel_rfl) (by kernel_rfl) (by kernel_rfl) (fun _ _ _ h => h) (by rfl) ?yre_18 (by assumption) ?rre_18
                  case yre_18 => (intro w hSw; (try dsimp only at hSw); go_simp; (try with_reducible rfl))
                  simp only [Act.put, List.setIfInBounds_toArray, List.set_cons_zero, List.set_cons_succ]
                  refine take_first 18 53 (v := ?vre_19) rfl rfl (by kernel_rfl) (by kernel_rfl) (by kernel_rfl) (fun _ _ _ h => h) (by rfl) ?yre_19 (by assumption) ?rre_19
                  case yre_19 => (intro w hSw; (try dsimp only at hSw); go_simp; (try with_reducible rfl))
                  simp only [Act.put, List.setIfInBounds_toArray, List.set_cons_zero, List.set_cons_succ]
                  refine wpAnyH_ready (rs := [19]) (by kernel_rfl) (by simp) ?_
                  refine AllReadyH.cons (o := _) rfl (fun Kre_20 hKre_20 => ?cre_20) ?mre_20
                  case mre_20 => exact AllReadyH.nil
                  go_simp
                  have HA := lastKind_any _ _ L x.disk.notes y.tx (HRg.out _ (HGo.out _ HWb.out)); unfold ptr at HA; refine HA.mono ?_; rintro e wa ⟨rfl, hba⟩; have HWe := Lib.hid (HWb.out.trans (hba.mono HWb.out.size)); replace k0 := And.intro (HTp.out _ HWe.out j z HZj.out) (HAl.out _ HWe.out); clear hba HA
                  go_wp2_with fail
                  refine hKre_20.out _ _ ?kre_20 (fun hHeldre_20 => ?dre_20)
                  case kre_20 => (first | (dsimp only; (first | with_reducible exact k0 | exact k0)) | (first | with_reducible exact k0 | exact k0))
                  clear hKre_20 Kre_20
                  refine take_first 20 55 (v := ?vre_21) rfl rfl (by kernel_rfl) (by kernel_rfl) (by kernel_rfl) (fun _ _ _ h => h) (by rfl) ?yre_21 (by assumption) ?rre_21
                  case yre_21 => (intro w hSw; (try dsimp only at hSw); go_simp; (try with_reducible rfl))
                  simp only [Act.put, List.setIfInBounds_toArray, List.set_cons_zero, List.set_cons_succ]
                  refine wpAnyH_ready (rs := [21]) (by kernel_rfl) (by simp) ?_
                  refine AllReadyH.cons (o := _) rfl (fun Kre_22 hKre_22 => ?cre_22) ?mre_22
                  case mre_22 => exact AllReadyH.nil
                  go_simp
                  refine (activeOk_any _ _ y _ (HFr.out _ HWe.out)).mono ?_; rintro e wc ⟨rfl, hbc⟩; rw [hact]; have HWf := Lib.hid (HWe.out.trans (hbc.mono HWe.out.size)); replace k0 := And.intro (HTp.out _ HWf.out j z HZj.out) (HAl.out _ HWf.out); clear hbc
                  go_wp2_with fail
                  refine hKre_22.out _ _ ?kre_22 (fun hHeldre_22 => ?dre_22)
                  case kre_22 => (first | (dsimp only; (first | with_reducible exact k0 | exact k0)) | (first | with_reducible exact k0 | exact k0))
                  clear hKre_22 Kre_22
                  refine take_first 22 57 (v := ?vre_23) rfl rfl (by kernel_rfl) (by kernel_rfl) (by kernel_rfl) (fun _ _ _ h => h) (by rfl) ?yre_23 (by assumption) ?rre_23
                  case yre_23 => (intro w hSw; (try dsimp only at hSw); go_simp; (try with_reducible rfl))
                  simp only [Act.put, List.setIfInBounds_toArray, List.set_cons_zero, List.set_cons_succ]
                  refine take_first 23 58 (v := ?vre_24) rfl rfl (by kernel_rfl) (by kernel_rfl) (by kernel_rfl) (fun _ _ _ h => h) (by rfl) ?yre_24 (by assumption) ?rre_24
                  case yre_24 => (intro w hSw; (try dsimp only at hSw); go_simp; (try with_reducible rfl))
                  simp only [Act.put, List.setIfInBounds_toArray, List.set_cons_zero, List.set_cons_succ]
                  refine wpAnyH_done (by kernel_rfl) ?ere _
                  clear k0
                  have HBz := Lib.hid (HGo.out _ HWf.out)
                  go_wp2
                  go_roundw
                  case rel => exact ⟨k + 1, by omega, by go_num, HSt.out, HBz.out⟩
                  case measure => simp [intOf]; omega
          · have hki : ¬ (k : Int) < (x.way.length : Int) := by omega
            have HE := Lib.hid (fro_true HD.out HO.out HL.out (by rw [HI.out]; exact way_end (by omega) _))
            have HBz := Lib.hid (HYr.out _ HBr.out).2
            go_wp2
            go_ret
            exact ⟨ret_bool HE.out.symm, HBz.out⟩

end Go.Proofs.Ytecdibpiojgppaa
