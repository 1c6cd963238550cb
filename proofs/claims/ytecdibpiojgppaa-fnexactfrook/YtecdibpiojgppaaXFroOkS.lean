/- FroOk of the model. By frogen.py. -/
import Derived.Test.YtecdibpiojgppaaXFroOkI
import Derived.Test.YtecdibpiojgppaaXOpOkS
namespace Go.Proofs.Ytecdibpiojgppaa
open Go.RowKit

set_option maxRecDepth 100000 in
set_option maxHeartbeats 16000000 in
theorem specFroOk_any (w : World) (cs : List Value) (x : Fro) (h : froSh.rel w w.heap.size cs x) :
    Calls Try.prog 24 #[.agg cs.toArray] w fun e w' => e = .returned (.bool (froB x)) ∧ Below w.heap.size w w' := by
  obtain ⟨un, uw, rfl, hn, hw⟩ := fro_rel.1 h
  obtain ⟨An, cn, rfl, hn2, hn1⟩ := hn.form
  obtain ⟨Aw, cw, rfl, hw2, hw1⟩ := hw.form
  unfold maxLen at hw2 hn2
  have HN := Lib.hid fun W (hb : Below w.heap.size w W) => (hn.below hb).more hb.size
  have HY := Lib.hid fun W (hb : Below w.heap.size w W) => (hw.below hb).more hb.size
  have HX := Lib.hid (Held.new w #[.slice An x.disk.notes.length cn, .int .i64 x.disk.safe, .slice Aw x.way.length cw] 57)
  have HB := Lib.hid (belowOne w (.cells #[.slice An x.disk.notes.length cn, .int .i64 x.disk.safe, .slice Aw x.way.length cw] 57))
  clear h hn hw
  go_enter Try.func24, Try.ntmps24
  go_wp2_with fail
  refine (specDiskOk_any _ [.slice An x.disk.notes.length cn, .int .i64 x.disk.safe] x.disk (disk_rel.2 ⟨_, rfl, HN.out _ HB.out⟩)).mono ?_
  rintro e w1 ⟨rfl, hb⟩
  replace HX := Lib.hid (HX.out.below hb HX.out.1)
  replace HB := Lib.hid (belowNext HB.out hb)
  clear hb
  cases hd : diskB x.disk with
  | false =>
    have HR := Lib.hid (fro_false (.inl hd))
    clear hd
    go_wp2
    go_ret
    exact ⟨ret_bool HR.out.symm, HB.out⟩
  | true =>
    have HD := Lib.hid hd
    clear hd
    obtain ⟨c0, c1, c2⟩ := And.intro (HX.out.of 0 _ rfl) (And.intro (HX.out.of 1 _ rfl) (HX.out.of 2 _ rfl))
    by_cases h30 : 30 < x.way.length
    · have HR := Lib.hid (fro_false (.inr (.inr (.inl h30))))
      have h30' : (30 : Int) < (x.way.length : Int) := by omega
      go_wp2
      go_ret
      exact ⟨ret_bool HR.out.symm, HB.out⟩
    · have h30' : ¬ (30 : Int) < (x.way.length : Int) := by omega
      have HL := Lib.hid (show x.way.length ≤ 30 by omega)
      clear h30
      go_wp2
      clear c0 c1 c2
      have KC := Lib.hid fun X (hX : Below w1.heap.size w1 X) => show X.cell? ⟨w.heap.size, 2, none⟩ = some (.slice Aw x.way.length cw) ∧ X.cell? ⟨w.heap.size, 0, none⟩ = some (.slice An x.disk.notes.length cn) from
        ⟨(HX.out.below hX HX.out.1).of 2 _ rfl, (HX.out.below hX HX.out.1).of 0 _ rfl⟩
      have HNr := Lib.hid fun X (hX : Below w1.heap.size w1 X) => HN.out X (belowNext HB.out hX)
      have HYr := Lib.hid fun X (hX : Below w1.heap.size w1 X) => show ftxSh.Row X X.heap.size (.slice Aw x.way.length cw) x.way ∧ Below w.heap.size w X from
        ⟨HY.out _ (belowNext HB.out hX), belowNext HB.out hX⟩
      have HB1 := Lib.hid (show Below w1.heap.size w1 w1 from Below.refl _ _)
      clear HX HB HN HY
      go_loopw [3] (fun i wr => ∃ k : Nat, k ≤ x.disk.notes.length ∧ i = .int .i64 k ∧ outB (x.disk.notes.take k) = true ∧ Below w1.heap.size w1 wr) (fun i _ => x.disk.notes.length - (intOf i).toNat)
      case atStart => exact ⟨0, Nat.zero_le _, rfl, rfl, HB1.out⟩
      case round =>
        clear HB1
        obtain ⟨k, hk, rfl, ho, hb⟩ := hrel
        have HO := Lib.hid ho
        have HBr := Lib.hid hb
        clear ho hb
        obtain ⟨c2, c0⟩ := KC.out _ HBr.out
        by_cases hlt : k < x.disk.notes.length
        · obtain ⟨b, off, c', y, A1, c1, A2, c3, e1, hx, hB, d0, d1, d2, d3, -⟩ := notes_at2 (HNr.out _ HBr.out) hlt
          injection e1 with e1a e1b e1c
          subst e1a
          have HT := Lib.hid (out_take hx)
          have HXx := Lib.hid hx
          have hki : (k : Int) < (x.disk.notes.length : Int) := by omega
          have hk0 : (0 : Int) ≤ (k : Int) := by omega
          have HBz := Lib.hid (HYr.out _ HBr.out).2
          clear e1b e1c hx
          by_cases h2 : y.kind = 2
          · have f2 : (y.kind != 2) = false := by simp [h2]
            have HS := Lib.hid (show outB (x.disk.notes.take (k + 1)) = true by rw [HT.out, HO.out]; simp [h2])
            clear h2
            go_wp2
            go_roundw
            case rel => exact ⟨k + 1, by omega, by go_num, HS.out, HBr.out⟩
            case measure => simp [intOf]; omega
          · have f2 : (y.kind != 2) = true := by simp [h2]
            by_cases h4 : y.kind = 4
            · have f4 : (y.kind != 4) = false := by simp [h4]
              have HS := Lib.hid (show outB (x.disk.notes.take (k + 1)) = true by rw [HT.out, HO.out]; simp [h4])
              clear h2 h4
              go_wp2
              go_roundw
              case rel => exact ⟨k + 1, by omega, by go_num, HS.out, HBr.out⟩
              case measure => simp [intOf]; omega
            · have f4 : (y.kind != 4) = true := by simp [h4]
              have HNo := Lib.hid (fro_false (.inr (.inl (out_no HXx.out (by simp [h2]) (by simp [h4])))))
              clear h2 h4
              go_wp2
              go_ret
              exact ⟨ret_bool HNo.out.symm, HBz.out⟩
        · have hks : k = x.disk.notes.length := by omega
          have HOu := Lib.hid (show outB x.disk.notes = true by have h := HO.out; rwa [hks, List.take_length] at h)
          have hki : ¬ (k : Int) < (x.disk.notes.length : Int) := by omega
          have HBk := HBr
          clear hks HO HBr
          go_wp2
          clear c2 c0 hki hlt hk
          have hw1' : x.way.length ≤ 30 := HL.out
          go_loopw [4] (fun i wr => ∃ k : Nat, k ≤ x.way.length ∧ i = .int .i64 k ∧ wayB x.disk.notes (-1) x.way = wayB x.disk.notes (pvT x.way k) (x.way.drop k) ∧ Below w1.heap.size w1 wr) (fun i _ => x.way.length - (intOf i).toNat)
          case atStart => exact ⟨0, Nat.zero_le _, rfl, rfl, HBk.out⟩
          case round =>
            clear HBk
            obtain ⟨k, hk, rfl, hinv, hb⟩ := hrel
            have HI := Lib.hid hinv
            have HBr := Lib.hid hb
            clear hinv hb
            obtain ⟨c2, c0⟩ := KC.out _ HBr.out
            by_cases hlt : k < x.way.length
            · obtain ⟨bw, ow, dw, y, uc, uk, e1, hy, hBw, ⟨t0, t1, t2, t3, t4, t5, t6, t7, t8, t9, t10⟩, hyc, hyk⟩ := ftxs_at (HYr.out _ HBr.out).1 hlt
              obtain ⟨Ac, cc, rfl, -, -⟩ := hyc.form
              obtain ⟨Ak, ck, rfl, hka2, hka1⟩ := hyk.form
              unfold maxLen at hka2
              obtain ⟨yt, yo, yy, yc, yk⟩ := y
              dsimp only at hy t0 t1 t2 t3 t4 t5 t6 t7 t8 t9 t10 hyc hyk hka1
              injection e1 with e1a e1b e1c
              subst e1a
              have HW := Lib.hid (show wayB x.disk.notes (pvT x.way k) (x.way.drop k) = (actB ⟨yt, yo, yy, yc, yk⟩ (lastK x.disk.notes yt == 2) && (decide (pvT x.way k < yt) && wayB x.disk.notes (pvT x.way (k + 1)) (x.way.drop (k + 1)))) from way_at (ns := x.disk.notes) hy)
              have HV := Lib.hid (fun l => show actB ⟨yt, yo, yy, yc, yk⟩ l = (inB yt 0 29 && ((yy == l) && (plsB yc && (plsB yk && (yy || (opB yo && decide (yk.length = 0))))))) from rfl)
              have hki : (k : Int) < (x.way.length : Int) := by omega
              have hk0 : (0 : Int) ≤ (k : Int) := by omega
              have HXb := Lib.hid (Held.new wr #[.int .i64 yt, .int .i64 yo.kind, .int .i64 yo.who, .int .i64 yo.inn, .int .i64 yo.code, .int .i64 yo.sec, .int .i64 yo.fam, .int .i64 yo.gen, .bool yy, .slice Ac yc.length cc, .slice Ak yk.length ck] 115)
              have HBb := Lib.hid (belowOne wr (.cells #[.int .i64 yt, .int .i64 yo.kind, .int .i64 yo.who, .int .i64 yo.inn, .int .i64 yo.code, .int .i64 yo.sec, .int .i64 yo.fam, .int .i64 yo.gen, .bool yy, .slice Ac yc.length cc, .slice Ak yk.length ck] 115))
              have HB5 := Lib.hid (HBr.out.trans (HBb.out.mono HBr.out.size))
              have HCr := Lib.hid fun X (hX : Below (wr.alloc (.cells #[.int .i64 yt, .int .i64 yo.kind, .int .i64 yo.who, .int .i64 yo.inn, .int .i64 yo.code, .int .i64 yo.sec, .int .i64 yo.fam, .int .i64 yo.gen, .bool yy, .slice Ac yc.length cc, .slice Ak yk.length ck] 115)).heap.size (wr.alloc (.cells #[.int .i64 yt, .int .i64 yo.kind, .int .i64 yo.who, .int .i64 yo.inn, .int .i64 yo.code, .int .i64 yo.sec, .int .i64 yo.fam, .int .i64 yo.gen, .bool yy, .slice Ac yc.length cc, .slice Ak yk.length ck] 115)) X) => show Sh.int.Row X X.heap.size (.slice Ac yc.length cc) yc ∧ Sh.int.Row X X.heap.size (.slice Ak yk.length ck) yk from
                have h1 : Below wr.heap.size wr X := belowNext HBb.out hX
                ⟨(hyc.below h1).more h1.size, (hyk.below h1).more h1.size⟩
              have HGo := Lib.hid fun X (hX : Below (wr.alloc (.cells #[.int .i64 yt, .int .i64 yo.kind, .int .i64 yo.who, .int .i64 yo.inn, .int .i64 yo.code, .int .i64 yo.sec, .int .i64 yo.fam, .int .i64 yo.gen, .bool yy, .slice Ac yc.length cc, .slice Ak yk.length ck] 115)).heap.size (wr.alloc (.cells #[.int .i64 yt, .int .i64 yo.kind, .int .i64 yo.who, .int .i64 yo.inn, .int .i64 yo.code, .int .i64 yo.sec, .int .i64 yo.fam, .int .i64 yo.gen, .bool yy, .slice Ac yc.length cc, .slice Ak yk.length ck] 115)) X) => show Below w1.heap.size w1 X from HB5.out.trans (hX.mono HB5.out.size)
              have HTp := Lib.hid fun X (hX : Below (wr.alloc (.cells #[.int .i64 yt, .int .i64 yo.kind, .int .i64 yo.who, .int .i64 yo.inn, .int .i64 yo.code, .int .i64 yo.sec, .int .i64 yo.fam, .int .i64 yo.gen, .bool yy, .slice Ac yc.length cc, .slice Ak yk.length ck] 115)).heap.size (wr.alloc (.cells #[.int .i64 yt, .int .i64 yo.kind, .int .i64 yo.who, .int .i64 yo.inn, .int .i64 yo.code, .int .i64 yo.sec, .int .i64 yo.fam, .int .i64 yo.gen, .bool yy, .slice Ac yc.length cc, .slice Ak yk.length ck] 115)) X) => show ∀ j y', x.way[j]? = some y' → X.cell? ⟨bw, ow + j * 11, none⟩ = some (.int .i64 y'.tx) from fun j y' hj => by
                obtain ⟨b2, o2, d2, y2, u2, u2', e2, hy2, hB2, ⟨s0, -⟩, -, -⟩ := ftxs_at (HYr.out _ (HGo.out _ hX)).1 (k := j) (List.getElem?_eq_some_iff.1 hj).1
                injection e2 with e2a _ _
                injection e2a with e2a
                injection e2a with e2b e2c _
                subst e2b e2c
                rw [hj] at hy2
                obtain rfl := Option.some.inj hy2
                exact s0
              have HAl := Lib.hid fun X (hX : Below (wr.alloc (.cells #[.int .i64 yt, .int .i64 yo.kind, .int .i64 yo.who, .int .i64 yo.inn, .int .i64 yo.code, .int .i64 yo.sec, .int .i64 yo.fam, .int .i64 yo.gen, .bool yy, .slice Ac yc.length cc, .slice Ak yk.length ck] 115)).heap.size (wr.alloc (.cells #[.int .i64 yt, .int .i64 yo.kind, .int .i64 yo.who, .int .i64 yo.inn, .int .i64 yo.code, .int .i64 yo.sec, .int .i64 yo.fam, .int .i64 yo.gen, .bool yy, .slice Ac yc.length cc, .slice Ak yk.length ck] 115)) X) => show (X.cell? ⟨w.heap.size, 2, none⟩ = some (.slice (some ⟨bw, ow, none⟩) x.way.length cw) ∧ X.cell? ⟨w.heap.size, 0, none⟩ = some (.slice An x.disk.notes.length cn) ∧ X.cell? ⟨wr.heap.size, 0, none⟩ = some (.int .i64 yt) ∧ X.cell? ⟨wr.heap.size, 1, none⟩ = some (.int .i64 yo.kind) ∧ X.cell? ⟨wr.heap.size, 2, none⟩ = some (.int .i64 yo.who) ∧ X.cell? ⟨wr.heap.size, 3, none⟩ = some (.int .i64 yo.inn) ∧ X.cell? ⟨wr.heap.size, 4, none⟩ = some (.int .i64 yo.code) ∧ X.cell? ⟨wr.heap.size, 5, none⟩ = some (.int .i64 yo.sec) ∧ X.cell? ⟨wr.heap.size, 6, none⟩ = some (.int .i64 yo.fam) ∧ X.cell? ⟨wr.heap.size, 7, none⟩ = some (.int .i64 yo.gen) ∧ X.cell? ⟨wr.heap.size, 8, none⟩ = some (.bool yy) ∧ X.cell? ⟨wr.heap.size, 9, none⟩ = some (.slice Ac yc.length cc) ∧ X.cell? ⟨wr.heap.size, 10, none⟩ = some (.slice Ak yk.length ck)) from by
                obtain ⟨b1, b2⟩ := KC.out X (HGo.out X hX)
                exact ⟨b1, b2, (HXb.out.below hX HXb.out.1).of 0 _ rfl, (HXb.out.below hX HXb.out.1).of 1 _ rfl, (HXb.out.below hX HXb.out.1).of 2 _ rfl, (HXb.out.below hX HXb.out.1).of 3 _ rfl, (HXb.out.below hX HXb.out.1).of 4 _ rfl, (HXb.out.below hX HXb.out.1).of 5 _ rfl, (HXb.out.below hX HXb.out.1).of 6 _ rfl, (HXb.out.below hX HXb.out.1).of 7 _ rfl, (HXb.out.below hX HXb.out.1).of 8 _ rfl, (HXb.out.below hX HXb.out.1).of 9 _ rfl, (HXb.out.below hX HXb.out.1).of 10 _ rfl⟩
              have HWb := Lib.hid (show Below (wr.alloc (.cells #[.int .i64 yt, .int .i64 yo.kind, .int .i64 yo.who, .int .i64 yo.inn, .int .i64 yo.code, .int .i64 yo.sec, .int .i64 yo.fam, .int .i64 yo.gen, .bool yy, .slice Ac yc.length cc, .slice Ak yk.length ck] 115)).heap.size (wr.alloc (.cells #[.int .i64 yt, .int .i64 yo.kind, .int .i64 yo.who, .int .i64 yo.inn, .int .i64 yo.code, .int .i64 yo.sec, .int .i64 yo.fam, .int .i64 yo.gen, .bool yy, .slice Ac yc.length cc, .slice Ak yk.length ck] 115)) (wr.alloc (.cells #[.int .i64 yt, .int .i64 yo.kind, .int .i64 yo.who, .int .i64 yo.inn, .int .i64 yo.code, .int .i64 yo.sec, .int .i64 yo.fam, .int .i64 yo.gen, .bool yy, .slice Ac yc.length cc, .slice Ak yk.length ck] 115)).drew from (Below.refl _ _).drew)
              have HYj := Lib.hid hy
              clear HXb HBb HB5 hyc hyk e1b e1c hBw hy
              go_wp2
              clear t0 t1 t2 t3 t4 t5 t6 t7 t8 t9 t10 c2 c0
              generalize (wr.alloc (.cells #[.int .i64 yt, .int .i64 yo.kind, .int .i64 yo.who, .int .i64 yo.inn, .int .i64 yo.code, .int .i64 yo.sec, .int .i64 yo.fam, .int .i64 yo.gen, .bool yy, .slice Ac yc.length cc, .slice Ak yk.length ck] 115)) = wb at *
              cases hA : inB yt 0 29 with
              | false =>
                have k0 := HAl.out _ HWb.out
                have HNo := Lib.hid (show froB x = false from fro_false (.inr (.inr (.inr (by rw [HI.out, HW.out, HV.out, hA]; rfl)))))
                refine wp_region_held_drew (S := (fun w' => w'.cell? ⟨w.heap.size, 2, none⟩ = some (.slice (some ⟨bw, ow, none⟩) x.way.length cw) ∧ w'.cell? ⟨w.heap.size, 0, none⟩ = some (.slice An x.disk.notes.length cn) ∧ w'.cell? ⟨wr.heap.size, 0, none⟩ = some (.int .i64 yt) ∧ w'.cell? ⟨wr.heap.size, 1, none⟩ = some (.int .i64 yo.kind) ∧ w'.cell? ⟨wr.heap.size, 2, none⟩ = some (.int .i64 yo.who) ∧ w'.cell? ⟨wr.heap.size, 3, none⟩ = some (.int .i64 yo.inn) ∧ w'.cell? ⟨wr.heap.size, 4, none⟩ = some (.int .i64 yo.code) ∧ w'.cell? ⟨wr.heap.size, 5, none⟩ = some (.int .i64 yo.sec) ∧ w'.cell? ⟨wr.heap.size, 6, none⟩ = some (.int .i64 yo.fam) ∧ w'.cell? ⟨wr.heap.size, 7, none⟩ = some (.int .i64 yo.gen) ∧ w'.cell? ⟨wr.heap.size, 8, none⟩ = some (.bool yy) ∧ w'.cell? ⟨wr.heap.size, 9, none⟩ = some (.slice Ac yc.length cc) ∧ w'.cell? ⟨wr.heap.size, 10, none⟩ = some (.slice Ak yk.length ck))) (by kernel_rfl) ?hSsxa (fun hHeldsxa => ?stsxa)
                case hSsxa => (first | (dsimp only; (first | with_reducible exact k0 | exact k0)) | (first | with_reducible exact k0 | exact k0))
                refine take_first 0 54 (v := ?vsxa_1) rfl rfl (by kernel_rfl) (by kernel_rfl) (by kernel_rfl) (fun _ _ _ h => h) (by rfl) ?ysxa_1 (by assumption) ?rsxa_1
                case ysxa_1 => (intro w hSw; (try dsimp only at hSw); go_simp; (try with_reducible rfl))
                simp only [Act.put, List.setIfInBounds_toArray, List.set_cons_zero, List.set_cons_succ]
                refine take_first 1 55 (v := ?vsxa_2) rfl rfl (by kernel_rfl) (by kernel_rfl) (by kernel_rfl) (fun _ _ _ h => h) (by rfl) ?ysxa_2 (by assumption) ?rsxa_2
                case ysxa_2 => (intro w hSw; (try dsimp only at hSw); go_simp; (try with_reducible rfl))
                simp only [Act.put, List.setIfInBounds_toArray, List.set_cons_zero, List.set_cons_succ]
                refine wpAnyH_ready (rs := [2]) (by kernel_rfl) (by simp) ?_
                refine AllReadyH.cons (o := _) rfl (fun Ksxa_3 hKsxa_3 => ?csxa_3) ?msxa_3
                case msxa_3 => exact AllReadyH.nil
                go_simp
                refine (l1In_any _ _ _ _).mono ?_; rintro e wz ⟨rfl, rfl⟩; rw [hA]
                go_wp2_with fail
                refine hKsxa_3.out _ _ ?ksxa_3 (fun hHeldsxa_3 => ?dsxa_3)
                case ksxa_3 => (first | (dsimp only; (first | with_reducible exact k0 | exact k0)) | (first | with_reducible exact k0 | exact k0))
                clear hKsxa_3 Ksxa_3
                refine take_first 3 57 (v := ?vsxa_4) rfl rfl (by kernel_rfl) (by kernel_rfl) (by kernel_rfl) (fun _ _ _ h => h) (by rfl) ?ysxa_4 (by assumption) ?rsxa_4
                case ysxa_4 => (intro w hSw; (try dsimp only at hSw); go_simp; (try with_reducible rfl))
                simp only [Act.put, List.setIfInBounds_toArray, List.set_cons_zero, List.set_cons_succ]
                refine take_first 4 58 (v := ?vsxa_5) rfl rfl (by kernel_rfl) (by kernel_rfl) (by kernel_rfl) (fun _ _ _ h => h) (by rfl) ?ysxa_5 (by assumption) ?rsxa_5
                case ysxa_5 => (intro w hSw; (try dsimp only at hSw); go_simp; (try with_reducible rfl))
                simp only [Act.put, List.setIfInBounds_toArray, List.set_cons_zero, List.set_cons_succ]
                refine pass_over 5 59 rfl rfl (by kernel_rfl) (by kernel_rfl) (by kernel_rfl) (fun _ _ _ h => h) (by rfl) (by assumption) ?rsxa_6
                simp only [Act.put, List.setIfInBounds_toArray, List.set_cons_zero, List.set_cons_succ]
                refine pass_over 6 60 rfl rfl (by kernel_rfl) (by kernel_rfl) (by kernel_rfl) (fun _ _ _ h => h) (by rfl) (by assumption) ?rsxa_7
                simp only [Act.put, List.setIfInBounds_toArray, List.set_cons_zero, List.set_cons_succ]
                refine pass_over 7 61 rfl rfl (by kernel_rfl) (by kernel_rfl) (by kernel_rfl) (fun _ _ _ h => h) (by rfl) (by assumption) ?rsxa_8
                simp only [Act.put, List.setIfInBounds_toArray, List.set_cons_zero, List.set_cons_succ]
                refine pass_over 8 62 rfl rfl (by kernel_rfl) (by kernel_rfl) (by kernel_rfl) (fun _ _ _ h => h) (by rfl) (by assumption) ?rsxa_9
                simp only [Act.put, List.setIfInBounds_toArray, List.set_cons_zero, List.set_cons_succ]
                refine pass_over 9 63 rfl rfl (by kernel_rfl) (by kernel_rfl) (by kernel_rfl) (fun _ _ _ h => h) (by rfl) (by assumption) ?rsxa_10
                simp only [Act.put, List.setIfInBounds_toArray, List.set_cons_zero, List.set_cons_succ]
                refine pass_over 10 64 rfl rfl (by kernel_rfl) (by kernel_rfl) (by kernel_rfl) (fun _ _ _ h => h) (by rfl) (by assumption) ?rsxa_11
                simp only [Act.put, List.setIfInBounds_toArray, List.set_cons_zero, List.set_cons_succ]
                refine pass_over 11 65 rfl rfl (by kernel_rfl) (by kernel_rfl) (by kernel_rfl) (fun _ _ _ h => h) (by rfl) (by assumption) ?rsxa_12
                simp only [Act.put, List.setIfInBounds_toArray, List.set_cons_zero, List.set_cons_succ]
                refine pass_over 12 66 rfl rfl (by kernel_rfl) (by kernel_rfl) (by kernel_rfl) (fun _ _ _ h => h) (by rfl) (by assumption) ?rsxa_13
                simp only [Act.put, List.setIfInBounds_toArray, List.set_cons_zero, List.set_cons_succ]
                refine pass_over 13 67 rfl rfl (by kernel_rfl) (by kernel_rfl) (by kernel_rfl) (fun _ _ _ h => h) (by rfl) (by assumption) ?rsxa_14
                simp only [Act.put, List.setIfInBounds_toArray, List.set_cons_zero, List.set_cons_succ]
                refine pass_over 14 68 rfl rfl (by kernel_rfl) (by kernel_rfl) (by kernel_rfl) (fun _ _ _ h => h) (by rfl) (by assumption) ?rsxa_15
                simp only [Act.put, List.setIfInBounds_toArray, List.set_cons_zero, List.set_cons_succ]
                refine pass_over 15 69 rfl rfl (by kernel_rfl) (by kernel_rfl) (by kernel_rfl) (fun _ _ _ h => h) (by rfl) (by assumption) ?rsxa_16
                simp only [Act.put, List.setIfInBounds_toArray, List.set_cons_zero, List.set_cons_succ]
                refine pass_over 16 70 rfl rfl (by kernel_rfl) (by kernel_rfl) (by kernel_rfl) (fun _ _ _ h => h) (by rfl) (by assumption) ?rsxa_17
                simp only [Act.put, List.setIfInBounds_toArray, List.set_cons_zero, List.set_cons_succ]
                refine pass_over 17 71 rfl rfl (by kernel_rfl) (by kernel_rfl) (by kernel_rfl) (fun _ _ _ h => h) (by rfl) (by assumption) ?rsxa_18
                simp only [Act.put, List.setIfInBounds_toArray, List.set_cons_zero, List.set_cons_succ]
                refine pass_over 18 72 rfl rfl (by kernel_rfl) (by kernel_rfl) (by kernel_rfl) (fun _ _ _ h => h) (by rfl) (by assumption) ?rsxa_19
                simp only [Act.put, List.setIfInBounds_toArray, List.set_cons_zero, List.set_cons_succ]
                refine take_first 19 73 (v := ?vsxa_20) rfl rfl (by kernel_rfl) (by kernel_rfl) (by kernel_rfl) (fun _ _ _ h => h) (by rfl) ?ysxa_20 (by assumption) ?rsxa_20
                case ysxa_20 => (intro w hSw; (try dsimp only at hSw); go_simp; (try with_reducible rfl))
                simp only [Act.put, List.setIfInBounds_toArray, List.set_cons_zero, List.set_cons_succ]
                refine take_first 20 74 (v := ?vsxa_21) rfl rfl (by kernel_rfl) (by kernel_rfl) (by kernel_rfl) (fun _ _ _ h => h) (by rfl) ?ysxa_21 (by assumption) ?rsxa_21
                case ysxa_21 => (intro w hSw; (try dsimp only at hSw); go_simp; (try with_reducible rfl))
                simp only [Act.put, List.setIfInBounds_toArray, List.set_cons_zero, List.set_cons_succ]
                refine pass_over 21 75 rfl rfl (by kernel_rfl) (by kernel_rfl) (by kernel_rfl) (fun _ _ _ h => h) (by rfl) (by assumption) ?rsxa_22
                simp only [Act.put, List.setIfInBounds_toArray, List.set_cons_zero, List.set_cons_succ]
                refine pass_over 22 76 rfl rfl (by kernel_rfl) (by kernel_rfl) (by kernel_rfl) (fun _ _ _ h => h) (by rfl) (by assumption) ?rsxa_23
                simp only [Act.put, List.setIfInBounds_toArray, List.set_cons_zero, List.set_cons_succ]
                refine pass_over 23 77 rfl rfl (by kernel_rfl) (by kernel_rfl) (by kernel_rfl) (fun _ _ _ h => h) (by rfl) (by assumption) ?rsxa_24
                simp only [Act.put, List.setIfInBounds_toArray, List.set_cons_zero, List.set_cons_succ]
                refine pass_over 24 78 rfl rfl (by kernel_rfl) (by kernel_rfl) (by kernel_rfl) (fun _ _ _ h => h) (by rfl) (by assumption) ?rsxa_25
                simp only [Act.put, List.setIfInBounds_toArray, List.set_cons_zero, List.set_cons_succ]
                refine take_first 25 79 (v := ?vsxa_26) rfl rfl (by kernel_rfl) (by kernel_rfl) (by kernel_rfl) (fun _ _ _ h => h) (by rfl) ?ysxa_26 (by assumption) ?rsxa_26
                case ysxa_26 => (intro w hSw; (try dsimp only at hSw); go_simp; (try with_reducible rfl))
                simp only [Act.put, List.setIfInBounds_toArray, List.set_cons_zero, List.set_cons_succ]
                refine take_first 26 80 (v := ?vsxa_27) rfl rfl (by kernel_rfl) (by kernel_rfl) (by kernel_rfl) (fun _ _ _ h => h) (by rfl) ?ysxa_27 (by assumption) ?rsxa_27
                case ysxa_27 => (intro w hSw; (try dsimp only at hSw); go_simp; (try with_reducible rfl))
                simp only [Act.put, List.setIfInBounds_toArray, List.set_cons_zero, List.set_cons_succ]
                refine pass_over 27 81 rfl rfl (by kernel_rfl) (by kernel_rfl) (by kernel_rfl) (fun _ _ _ h => h) (by rfl) (by assumption) ?rsxa_28
                simp only [Act.put, List.setIfInBounds_toArray, List.set_cons_zero, List.set_cons_succ]
                refine pass_over 28 82 rfl rfl (by kernel_rfl) (by kernel_rfl) (by kernel_rfl) (fun _ _ _ h => h) (by rfl) (by assumption) ?rsxa_29
                simp only [Act.put, List.setIfInBounds_toArray, List.set_cons_zero, List.set_cons_succ]
                refine pass_over 29 83 rfl rfl (by kernel_rfl) (by kernel_rfl) (by kernel_rfl) (fun _ _ _ h => h) (by rfl) (by assumption) ?rsxa_30
                simp only [Act.put, List.setIfInBounds_toArray, List.set_cons_zero, List.set_cons_succ]
                refine pass_over 30 84 rfl rfl (by kernel_rfl) (by kernel_rfl) (by kernel_rfl) (fun _ _ _ h => h) (by rfl) (by assumption) ?rsxa_31
                simp only [Act.put, List.setIfInBounds_toArray, List.set_cons_zero, List.set_cons_succ]
                refine take_first 31 85 (v := ?vsxa_32) rfl rfl (by kernel_rfl) (by kernel_rfl) (by kernel_rfl) (fun _ _ _ h => h) (by rfl) ?ysxa_32 (by assumption) ?rsxa_32
                case ysxa_32 => (intro w hSw; (try dsimp only at hSw); go_simp; (try with_reducible rfl))
                simp only [Act.put, List.setIfInBounds_toArray, List.set_cons_zero, List.set_cons_succ]
                refine take_first 32 86 (v := ?vsxa_33) rfl rfl (by kernel_rfl) (by kernel_rfl) (by kernel_rfl) (fun _ _ _ h => h) (by rfl) ?ysxa_33 (by assumption) ?rsxa_33
                case ysxa_33 => (intro w hSw; (try dsimp only at hSw); go_simp; (try with_reducible rfl))
                simp only [Act.put, List.setIfInBounds_toArray, List.set_cons_zero, List.set_cons_succ]
                refine pass_over 33 87 rfl rfl (by kernel_rfl) (by kernel_rfl) (by kernel_rfl) (fun _ _ _ h => h) (by rfl) (by assumption) ?rsxa_34
                simp only [Act.put, List.setIfInBounds_toArray, List.set_cons_zero, List.set_cons_succ]
                refine pass_over 34 88 rfl rfl (by kernel_rfl) (by kernel_rfl) (by kernel_rfl) (fun _ _ _ h => h) (by rfl) (by assumption) ?rsxa_35
                simp only [Act.put, List.setIfInBounds_toArray, List.set_cons_zero, List.set_cons_succ]
                refine pass_over 35 89 rfl rfl (by kernel_rfl) (by kernel_rfl) (by kernel_rfl) (fun _ _ _ h => h) (by rfl) (by assumption) ?rsxa_36
                simp only [Act.put, List.setIfInBounds_toArray, List.set_cons_zero, List.set_cons_succ]
                refine pass_over 36 90 rfl rfl (by kernel_rfl) (by kernel_rfl) (by kernel_rfl) (fun _ _ _ h => h) (by rfl) (by assumption) ?rsxa_37
                simp only [Act.put, List.setIfInBounds_toArray, List.set_cons_zero, List.set_cons_succ]
                refine pass_over 37 91 rfl rfl (by kernel_rfl) (by kernel_rfl) (by kernel_rfl) (fun _ _ _ h => h) (by rfl) (by assumption) ?rsxa_38
                simp only [Act.put, List.setIfInBounds_toArray, List.set_cons_zero, List.set_cons_succ]
                refine pass_over 38 92 rfl rfl (by kernel_rfl) (by kernel_rfl) (by kernel_rfl) (fun _ _ _ h => h) (by rfl) (by assumption) ?rsxa_39
                simp only [Act.put, List.setIfInBounds_toArray, List.set_cons_zero, List.set_cons_succ]
                refine pass_over 39 93 rfl rfl (by kernel_rfl) (by kernel_rfl) (by kernel_rfl) (fun _ _ _ h => h) (by rfl) (by assumption) ?rsxa_40
                simp only [Act.put, List.setIfInBounds_toArray, List.set_cons_zero, List.set_cons_succ]
                refine pass_over 40 94 rfl rfl (by kernel_rfl) (by kernel_rfl) (by kernel_rfl) (fun _ _ _ h => h) (by rfl) (by assumption) ?rsxa_41
                simp only [Act.put, List.setIfInBounds_toArray, List.set_cons_zero, List.set_cons_succ]
                refine pass_over 41 95 rfl rfl (by kernel_rfl) (by kernel_rfl) (by kernel_rfl) (fun _ _ _ h => h) (by rfl) (by assumption) ?rsxa_42
                simp only [Act.put, List.setIfInBounds_toArray, List.set_cons_zero, List.set_cons_succ]
                refine pass_over 42 96 rfl rfl (by kernel_rfl) (by kernel_rfl) (by kernel_rfl) (fun _ _ _ h => h) (by rfl) (by assumption) ?rsxa_43
                simp only [Act.put, List.setIfInBounds_toArray, List.set_cons_zero, List.set_cons_succ]
                refine take_first 43 97 (v := ?vsxa_44) rfl rfl (by kernel_rfl) (by kernel_rfl) (by kernel_rfl) (fun _ _ _ h => h) (by rfl) ?ysxa_44 (by assumption) ?rsxa_44
                case ysxa_44 => (intro w hSw; (try dsimp only at hSw); go_simp; (try with_reducible rfl))
                simp only [Act.put, List.setIfInBounds_toArray, List.set_cons_zero, List.set_cons_succ]
                refine wpAnyH_done (by kernel_rfl) ?esxa _
                clear k0
                have HBz := Lib.hid (HYr.out _ (HGo.out _ HWb.out)).2
                go_wp2
                go_ret
                exact ⟨ret_bool HNo.out.symm, HBz.out⟩
              | true =>
                by_cases h0 : k = 0
                · subst h0
                  have k0 := HAl.out _ HWb.out
                  cases hC : plsB yc with
                  | false =>
                    have HNo := Lib.hid (show froB x = false from fro_false (.inr (.inr (.inr (by rw [HI.out, HW.out, show actB ⟨yt, yo, yy, yc, yk⟩ (lastK x.disk.notes yt == 2) = false by (rw [HV.out, hC]; simp)]; rfl)))))
                    refine wp_region_held_drew (S := (fun w' => w'.cell? ⟨w.heap.size, 2, none⟩ = some (.slice (some ⟨bw, ow, none⟩) x.way.length cw) ∧ w'.cell? ⟨w.heap.size, 0, none⟩ = some (.slice An x.disk.notes.length cn) ∧ w'.cell? ⟨wr.heap.size, 0, none⟩ = some (.int .i64 yt) ∧ w'.cell? ⟨wr.heap.size, 1, none⟩ = some (.int .i64 yo.kind) ∧ w'.cell? ⟨wr.heap.size, 2, none⟩ = some (.int .i64 yo.who) ∧ w'.cell? ⟨wr.heap.size, 3, none⟩ = some (.int .i64 yo.inn) ∧ w'.cell? ⟨wr.heap.size, 4, none⟩ = some (.int .i64 yo.code) ∧ w'.cell? ⟨wr.heap.size, 5, none⟩ = some (.int .i64 yo.sec) ∧ w'.cell? ⟨wr.heap.size, 6, none⟩ = some (.int .i64 yo.fam) ∧ w'.cell? ⟨wr.heap.size, 7, none⟩ = some (.int .i64 yo.gen) ∧ w'.cell? ⟨wr.heap.size, 8, none⟩ = some (.bool yy) ∧ w'.cell? ⟨wr.heap.size, 9, none⟩ = some (.slice Ac yc.length cc) ∧ w'.cell? ⟨wr.heap.size, 10, none⟩ = some (.slice Ak yk.length ck))) (by kernel_rfl) ?hSsxc (fun hHeldsxc => ?stsxc)
                    case hSsxc => (first | (dsimp only; (first | with_reducible exact k0 | exact k0)) | (first | with_reducible exact k0 | exact k0))
                    refine take_first 0 54 (v := ?vsxc_1) rfl rfl (by kernel_rfl) (by kernel_rfl) (by kernel_rfl) (fun _ _ _ h => h) (by rfl) ?ysxc_1 (by assumption) ?rsxc_1
                    case ysxc_1 => (intro w hSw; (try dsimp only at hSw); go_simp; (try with_reducible rfl))
                    simp only [Act.put, List.setIfInBounds_toArray, List.set_cons_zero, List.set_cons_succ]
                    refine take_first 1 55 (v := ?vsxc_2) rfl rfl (by kernel_rfl) (by kernel_rfl) (by kernel_rfl) (fun _ _ _ h => h) (by rfl) ?ysxc_2 (by assumption) ?rsxc_2
                    case ysxc_2 => (intro w hSw; (try dsimp only at hSw); go_simp; (try with_reducible rfl))
                    simp only [Act.put, List.setIfInBounds_toArray, List.set_cons_zero, List.set_cons_succ]
                    refine wpAnyH_ready (rs := [2]) (by kernel_rfl) (by simp) ?_
                    refine AllReadyH.cons (o := _) rfl (fun Ksxc_3 hKsxc_3 => ?csxc_3) ?msxc_3
                    case msxc_3 => exact AllReadyH.nil
                    go_simp
                    refine (l1In_any _ _ _ _).mono ?_; rintro e wz ⟨rfl, rfl⟩; rw [hA]
                    go_wp2_with fail
                    refine hKsxc_3.out _ _ ?ksxc_3 (fun hHeldsxc_3 => ?dsxc_3)
                    case ksxc_3 => (first | (dsimp only; (first | with_reducible exact k0 | exact k0)) | (first | with_reducible exact k0 | exact k0))
                    clear hKsxc_3 Ksxc_3
                    refine take_first 3 57 (v := ?vsxc_4) rfl rfl (by kernel_rfl) (by kernel_rfl) (by kernel_rfl) (fun _ _ _ h => h) (by rfl) ?ysxc_4 (by assumption) ?rsxc_4
                    case ysxc_4 => (intro w hSw; (try dsimp only at hSw); go_simp; (try with_reducible rfl))
                    simp only [Act.put, List.setIfInBounds_toArray, List.set_cons_zero, List.set_cons_succ]
                    refine take_first 4 58 (v := ?vsxc_5) rfl rfl (by kernel_rfl) (by kernel_rfl) (by kernel_rfl) (fun _ _ _ h => h) (by rfl) ?ysxc_5 (by assumption) ?rsxc_5
                    case ysxc_5 => (intro w hSw; (try dsimp only at hSw); go_simp; (try with_reducible rfl))
                    simp only [Act.put, List.setIfInBounds_toArray, List.set_cons_zero, List.set_cons_succ]
                    refine take_first 5 59 (v := ?vsxc_6) rfl rfl (by kernel_rfl) (by kernel_rfl) (by kernel_rfl) (fun _ _ _ h => h) (by rfl) ?ysxc_6 (by assumption) ?rsxc_6
                    case ysxc_6 => (intro w hSw; (try dsimp only at hSw); go_simp; (try with_reducible rfl))
                    simp only [Act.put, List.setIfInBounds_toArray, List.set_cons_zero, List.set_cons_succ]
                    refine take_first 6 60 (v := ?vsxc_7) rfl rfl (by kernel_rfl) (by kernel_rfl) (by kernel_rfl) (fun _ _ _ h => h) (by rfl) ?ysxc_7 (by assumption) ?rsxc_7
                    case ysxc_7 => (intro w hSw; (try dsimp only at hSw); go_simp; (try with_reducible rfl))
                    simp only [Act.put, List.setIfInBounds_toArray, List.set_cons_zero, List.set_cons_succ]
                    refine take_first 7 61 (v := ?vsxc_8) rfl rfl (by kernel_rfl) (by kernel_rfl) (by kernel_rfl) (fun _ _ _ h => h) (by rfl) ?ysxc_8 (by assumption) ?rsxc_8
                    case ysxc_8 => (intro w hSw; (try dsimp only at hSw); go_simp; (try with_reducible rfl))
                    simp only [Act.put, List.setIfInBounds_toArray, List.set_cons_zero, List.set_cons_succ]
                    refine pass_over 8 62 rfl rfl (by kernel_rfl) (by kernel_rfl) (by kernel_rfl) (fun _ _ _ h => h) (by rfl) (by assumption) ?rsxc_9
                    simp only [Act.put, List.setIfInBounds_toArray, List.set_cons_zero, List.set_cons_succ]
                    refine pass_over 9 63 rfl rfl (by kernel_rfl) (by kernel_rfl) (by kernel_rfl) (fun _ _ _ h => h) (by rfl) (by assumption) ?rsxc_10
                    simp only [Act.put, List.setIfInBounds_toArray, List.set_cons_zero, List.set_cons_succ]
                    refine pass_over 10 64 rfl rfl (by kernel_rfl) (by kernel_rfl) (by kernel_rfl) (fun _ _ _ h => h) (by rfl) (by assumption) ?rsxc_11
                    simp only [Act.put, List.setIfInBounds_toArray, List.set_cons_zero, List.set_cons_succ]
                    refine pass_over 11 65 rfl rfl (by kernel_rfl) (by kernel_rfl) (by kernel_rfl) (fun _ _ _ h => h) (by rfl) (by assumption) ?rsxc_12
                    simp only [Act.put, List.setIfInBounds_toArray, List.set_cons_zero, List.set_cons_succ]
                    refine pass_over 12 66 rfl rfl (by kernel_rfl) (by kernel_rfl) (by kernel_rfl) (fun _ _ _ h => h) (by rfl) (by assumption) ?rsxc_13
                    simp only [Act.put, List.setIfInBounds_toArray, List.set_cons_zero, List.set_cons_succ]
                    refine pass_over 13 67 rfl rfl (by kernel_rfl) (by kernel_rfl) (by kernel_rfl) (fun _ _ _ h => h) (by rfl) (by assumption) ?rsxc_14
                    simp only [Act.put, List.setIfInBounds_toArray, List.set_cons_zero, List.set_cons_succ]
                    refine pass_over 14 68 rfl rfl (by kernel_rfl) (by kernel_rfl) (by kernel_rfl) (fun _ _ _ h => h) (by rfl) (by assumption) ?rsxc_15
                    simp only [Act.put, List.setIfInBounds_toArray, List.set_cons_zero, List.set_cons_succ]
                    refine pass_over 15 69 rfl rfl (by kernel_rfl) (by kernel_rfl) (by kernel_rfl) (fun _ _ _ h => h) (by rfl) (by assumption) ?rsxc_16
                    simp only [Act.put, List.setIfInBounds_toArray, List.set_cons_zero, List.set_cons_succ]
                    refine pass_over 16 70 rfl rfl (by kernel_rfl) (by kernel_rfl) (by kernel_rfl) (fun _ _ _ h => h) (by rfl) (by assumption) ?rsxc_17
                    simp only [Act.put, List.setIfInBounds_toArray, List.set_cons_zero, List.set_cons_succ]
                    refine pass_over 17 71 rfl rfl (by kernel_rfl) (by kernel_rfl) (by kernel_rfl) (fun _ _ _ h => h) (by rfl) (by assumption) ?rsxc_18
                    simp only [Act.put, List.setIfInBounds_toArray, List.set_cons_zero, List.set_cons_succ]
                    refine take_first 18 72 (v := ?vsxc_19) rfl rfl (by kernel_rfl) (by kernel_rfl) (by kernel_rfl) (fun _ _ _ h => h) (by rfl) ?ysxc_19 (by assumption) ?rsxc_19
                    case ysxc_19 => (intro w hSw; (try dsimp only at hSw); go_simp; (try with_reducible rfl))
                    simp only [Act.put, List.setIfInBounds_toArray, List.set_cons_zero, List.set_cons_succ]
                    refine take_first 19 73 (v := ?vsxc_20) rfl rfl (by kernel_rfl) (by kernel_rfl) (by kernel_rfl) (fun _ _ _ h => h) (by rfl) ?ysxc_20 (by assumption) ?rsxc_20
                    case ysxc_20 => (intro w hSw; (try dsimp only at hSw); go_simp; (try with_reducible rfl))
                    simp only [Act.put, List.setIfInBounds_toArray, List.set_cons_zero, List.set_cons_succ]
                    refine take_first 20 74 (v := ?vsxc_21) rfl rfl (by kernel_rfl) (by kernel_rfl) (by kernel_rfl) (fun _ _ _ h => h) (by rfl) ?ysxc_21 (by assumption) ?rsxc_21
                    case ysxc_21 => (intro w hSw; (try dsimp only at hSw); go_simp; (try with_reducible rfl))
                    simp only [Act.put, List.setIfInBounds_toArray, List.set_cons_zero, List.set_cons_succ]
                    refine take_first 21 75 (v := ?vsxc_22) rfl rfl (by kernel_rfl) (by kernel_rfl) (by kernel_rfl) (fun _ _ _ h => h) (by rfl) ?ysxc_22 (by assumption) ?rsxc_22
                    case ysxc_22 => (intro w hSw; (try dsimp only at hSw); go_simp; (try with_reducible rfl))
                    simp only [Act.put, List.setIfInBounds_toArray, List.set_cons_zero, List.set_cons_succ]
                    refine take_first 22 76 (v := ?vsxc_23) rfl rfl (by kernel_rfl) (by kernel_rfl) (by kernel_rfl) (fun _ _ _ h => h) (by rfl) ?ysxc_23 (by assumption) ?rsxc_23
                    case ysxc_23 => (intro w hSw; (try dsimp only at hSw); go_simp; (try with_reducible rfl))
                    simp only [Act.put, List.setIfInBounds_toArray, List.set_cons_zero, List.set_cons_succ]
                    refine wpAnyH_ready (rs := [23]) (by kernel_rfl) (by simp) ?_
                    refine AllReadyH.cons (o := _) rfl (fun Ksxc_24 hKsxc_24 => ?csxc_24) ?msxc_24
                    case msxc_24 => exact AllReadyH.nil
                    go_simp
                    refine (l6Places_any _ _ yc (ints_row.1 (HCr.out _ HWb.out).1)).mono ?_; rintro e wc ⟨rfl, hbc⟩; rw [hC]; have HWe := Lib.hid (HWb.out.trans (hbc.mono HWb.out.size)); replace k0 := HAl.out _ HWe.out; clear hbc
                    go_wp2_with fail
                    refine hKsxc_24.out _ _ ?ksxc_24 (fun hHeldsxc_24 => ?dsxc_24)
                    case ksxc_24 => (first | (dsimp only; (first | with_reducible exact k0 | exact k0)) | (first | with_reducible exact k0 | exact k0))
                    clear hKsxc_24 Ksxc_24
                    refine take_first 24 78 (v := ?vsxc_25) rfl rfl (by kernel_rfl) (by kernel_rfl) (by kernel_rfl) (fun _ _ _ h => h) (by rfl) ?ysxc_25 (by assumption) ?rsxc_25
                    case ysxc_25 => (intro w hSw; (try dsimp only at hSw); go_simp; (try with_reducible rfl))
                    simp only [Act.put, List.setIfInBounds_toArray, List.set_cons_zero, List.set_cons_succ]
                    refine take_first 25 79 (v := ?vsxc_26) rfl rfl (by kernel_rfl) (by kernel_rfl) (by kernel_rfl) (fun _ _ _ h => h) (by rfl) ?ysxc_26 (by assumption) ?rsxc_26
                    case ysxc_26 => (intro w hSw; (try dsimp only at hSw); go_simp; (try with_reducible rfl))
                    simp only [Act.put, List.setIfInBounds_toArray, List.set_cons_zero, List.set_cons_succ]
                    refine take_first 26 80 (v := ?vsxc_27) rfl rfl (by kernel_rfl) (by kernel_rfl) (by kernel_rfl) (fun _ _ _ h => h) (by rfl) ?ysxc_27 (by assumption) ?rsxc_27
                    case ysxc_27 => (intro w hSw; (try dsimp only at hSw); go_simp; (try with_reducible rfl))
                    simp only [Act.put, List.setIfInBounds_toArray, List.set_cons_zero, List.set_cons_succ]
                    refine pass_over 27 81 rfl rfl (by kernel_rfl) (by kernel_rfl) (by kernel_rfl) (fun _ _ _ h => h) (by rfl) (by assumption) ?rsxc_28
                    simp only [Act.put, List.setIfInBounds_toArray, List.set_cons_zero, List.set_cons_succ]
                    refine pass_over 28 82 rfl rfl (by kernel_rfl) (by kernel_rfl) (by kernel_rfl) (fun _ _ _ h => h) (by rfl) (by assumption) ?rsxc_29
                    simp only [Act.put, List.setIfInBounds_toArray, List.set_cons_zero, List.set_cons_succ]
                    refine pass_over 29 83 rfl rfl (by kernel_rfl) (by kernel_rfl) (by kernel_rfl) (fun _ _ _ h => h) (by rfl) (by assumption) ?rsxc_30
                    simp only [Act.put, List.setIfInBounds_toArray, List.set_cons_zero, List.set_cons_succ]
                    refine pass_over 30 84 rfl rfl (by kernel_rfl) (by kernel_rfl) (by kernel_rfl) (fun _ _ _ h => h) (by rfl) (by assumption) ?rsxc_31
                    simp only [Act.put, List.setIfInBounds_toArray, List.set_cons_zero, List.set_cons_succ]
                    refine take_first 31 85 (v := ?vsxc_32) rfl rfl (by kernel_rfl) (by kernel_rfl) (by kernel_rfl) (fun _ _ _ h => h) (by rfl) ?ysxc_32 (by assumption) ?rsxc_32
                    case ysxc_32 => (intro w hSw; (try dsimp only at hSw); go_simp; (try with_reducible rfl))
                    simp only [Act.put, List.setIfInBounds_toArray, List.set_cons_zero, List.set_cons_succ]
                    refine take_first 32 86 (v := ?vsxc_33) rfl rfl (by kernel_rfl) (by kernel_rfl) (by kernel_rfl) (fun _ _ _ h => h) (by rfl) ?ysxc_33 (by assumption) ?rsxc_33
                    case ysxc_33 => (intro w hSw; (try dsimp only at hSw); go_simp; (try with_reducible rfl))
                    simp only [Act.put, List.setIfInBounds_toArray, List.set_cons_zero, List.set_cons_succ]
                    refine pass_over 33 87 rfl rfl (by kernel_rfl) (by kernel_rfl) (by kernel_rfl) (fun _ _ _ h => h) (by rfl) (by assumption) ?rsxc_34
                    simp only [Act.put, List.setIfInBounds_toArray, List.set_cons_zero, List.set_cons_succ]
                    refine pass_over 34 88 rfl rfl (by kernel_rfl) (by kernel_rfl) (by kernel_rfl) (fun _ _ _ h => h) (by rfl) (by assumption) ?rsxc_35
                    simp only [Act.put, List.setIfInBounds_toArray, List.set_cons_zero, List.set_cons_succ]
                    refine pass_over 35 89 rfl rfl (by kernel_rfl) (by kernel_rfl) (by kernel_rfl) (fun _ _ _ h => h) (by rfl) (by assumption) ?rsxc_36
                    simp only [Act.put, List.setIfInBounds_toArray, List.set_cons_zero, List.set_cons_succ]
                    refine pass_over 36 90 rfl rfl (by kernel_rfl) (by kernel_rfl) (by kernel_rfl) (fun _ _ _ h => h) (by rfl) (by assumption) ?rsxc_37
                    simp only [Act.put, List.setIfInBounds_toArray, List.set_cons_zero, List.set_cons_succ]
                    refine pass_over 37 91 rfl rfl (by kernel_rfl) (by kernel_rfl) (by kernel_rfl) (fun _ _ _ h => h) (by rfl) (by assumption) ?rsxc_38
                    simp only [Act.put, List.setIfInBounds_toArray, List.set_cons_zero, List.set_cons_succ]
                    refine pass_over 38 92 rfl rfl (by kernel_rfl) (by kernel_rfl) (by kernel_rfl) (fun _ _ _ h => h) (by rfl) (by assumption) ?rsxc_39
                    simp only [Act.put, List.setIfInBounds_toArray, List.set_cons_zero, List.set_cons_succ]
                    refine pass_over 39 93 rfl rfl (by kernel_rfl) (by kernel_rfl) (by kernel_rfl) (fun _ _ _ h => h) (by rfl) (by assumption) ?rsxc_40
                    simp only [Act.put, List.setIfInBounds_toArray, List.set_cons_zero, List.set_cons_succ]
                    refine pass_over 40 94 rfl rfl (by kernel_rfl) (by kernel_rfl) (by kernel_rfl) (fun _ _ _ h => h) (by rfl) (by assumption) ?rsxc_41
                    simp only [Act.put, List.setIfInBounds_toArray, List.set_cons_zero, List.set_cons_succ]
                    refine pass_over 41 95 rfl rfl (by kernel_rfl) (by kernel_rfl) (by kernel_rfl) (fun _ _ _ h => h) (by rfl) (by assumption) ?rsxc_42
                    simp only [Act.put, List.setIfInBounds_toArray, List.set_cons_zero, List.set_cons_succ]
                    refine pass_over 42 96 rfl rfl (by kernel_rfl) (by kernel_rfl) (by kernel_rfl) (fun _ _ _ h => h) (by rfl) (by assumption) ?rsxc_43
                    simp only [Act.put, List.setIfInBounds_toArray, List.set_cons_zero, List.set_cons_succ]
                    refine take_first 43 97 (v := ?vsxc_44) rfl rfl (by kernel_rfl) (by kernel_rfl) (by kernel_rfl) (fun _ _ _ h => h) (by rfl) ?ysxc_44 (by assumption) ?rsxc_44
                    case ysxc_44 => (intro w hSw; (try dsimp only at hSw); go_simp; (try with_reducible rfl))
                    simp only [Act.put, List.setIfInBounds_toArray, List.set_cons_zero, List.set_cons_succ]
                    refine wpAnyH_done (by kernel_rfl) ?esxc _
                    clear k0
                    have HBz := Lib.hid (HYr.out _ (HGo.out _ HWe.out)).2
                    go_wp2
                    go_ret
                    exact ⟨ret_bool HNo.out.symm, HBz.out⟩
                  | true =>
                    cases hD : plsB yk with
                    | false =>
                      have HNo := Lib.hid (show froB x = false from fro_false (.inr (.inr (.inr (by rw [HI.out, HW.out, show actB ⟨yt, yo, yy, yc, yk⟩ (lastK x.disk.notes yt == 2) = false by (rw [HV.out, hD]; simp)]; rfl)))))
                      refine wp_region_held_drew (S := (fun w' => w'.cell? ⟨w.heap.size, 2, none⟩ = some (.slice (some ⟨bw, ow, none⟩) x.way.length cw) ∧ w'.cell? ⟨w.heap.size, 0, none⟩ = some (.slice An x.disk.notes.length cn) ∧ w'.cell? ⟨wr.heap.size, 0, none⟩ = some (.int .i64 yt) ∧ w'.cell? ⟨wr.heap.size, 1, none⟩ = some (.int .i64 yo.kind) ∧ w'.cell? ⟨wr.heap.size, 2, none⟩ = some (.int .i64 yo.who) ∧ w'.cell? ⟨wr.heap.size, 3, none⟩ = some (.int .i64 yo.inn) ∧ w'.cell? ⟨wr.heap.size, 4, none⟩ = some (.int .i64 yo.code) ∧ w'.cell? ⟨wr.heap.size, 5, none⟩ = some (.int .i64 yo.sec) ∧ w'.cell? ⟨wr.heap.size, 6, none⟩ = some (.int .i64 yo.fam) ∧ w'.cell? ⟨wr.heap.size, 7, none⟩ = some (.int .i64 yo.gen) ∧ w'.cell? ⟨wr.heap.size, 8, none⟩ = some (.bool yy) ∧ w'.cell? ⟨wr.heap.size, 9, none⟩ = some (.slice Ac yc.length cc) ∧ w'.cell? ⟨wr.heap.size, 10, none⟩ = some (.slice Ak yk.length ck))) (by kernel_rfl) ?hSsxd (fun hHeldsxd => ?stsxd)
                      case hSsxd => (first | (dsimp only; (first | with_reducible exact k0 | exact k0)) | (first | with_reducible exact k0 | exact k0))
                      refine take_first 0 54 (v := ?vsxd_1) rfl rfl (by kernel_rfl) (by kernel_rfl) (by kernel_rfl) (fun _ _ _ h => h) (by rfl) ?ysxd_1 (by assumption) ?rsxd_1
                      case ysxd_1 => (intro w hSw; (try dsimp only at hSw); go_simp; (try with_reducible rfl))
                      simp only [Act.put, List.setIfInBounds_toArray, List.set_cons_zero, List.set_cons_succ]
                      refine take_first 1 55 (v := ?vsxd_2) rfl rfl (by kernel_rfl) (by kernel_rfl) (by kernel_rfl) (fun _ _ _ h => h) (by rfl) ?ysxd_2 (by assumption) ?rsxd_2
                      case ysxd_2 => (intro w hSw; (try dsimp only at hSw); go_simp; (try with_reducible rfl))
                      simp only [Act.put, List.setIfInBounds_toArray, List.set_cons_zero, List.set_cons_succ]
                      refine wpAnyH_ready (rs := [2]) (by kernel_rfl) (by simp) ?_
                      refine AllReadyH.cons (o := _) rfl (fun Ksxd_3 hKsxd_3 => ?csxd_3) ?msxd_3
                      case msxd_3 => exact AllReadyH.nil
                      go_simp
                      refine (l1In_any _ _ _ _).mono ?_; rintro e wz ⟨rfl, rfl⟩; rw [hA]
                      go_wp2_with fail
                      refine hKsxd_3.out _ _ ?ksxd_3 (fun hHeldsxd_3 => ?dsxd_3)
                      case ksxd_3 => (first | (dsimp only; (first | with_reducible exact k0 | exact k0)) | (first | with_reducible exact k0 | exact k0))
                      clear hKsxd_3 Ksxd_3
                      refine take_first 3 57 (v := ?vsxd_4) rfl rfl (by kernel_rfl) (by kernel_rfl) (by kernel_rfl) (fun _ _ _ h => h) (by rfl) ?ysxd_4 (by assumption) ?rsxd_4
                      case ysxd_4 => (intro w hSw; (try dsimp only at hSw); go_simp; (try with_reducible rfl))
                      simp only [Act.put, List.setIfInBounds_toArray, List.set_cons_zero, List.set_cons_succ]
                      refine take_first 4 58 (v := ?vsxd_5) rfl rfl (by kernel_rfl) (by kernel_rfl) (by kernel_rfl) (fun _ _ _ h => h) (by rfl) ?ysxd_5 (by assumption) ?rsxd_5
                      case ysxd_5 => (intro w hSw; (try dsimp only at hSw); go_simp; (try with_reducible rfl))
                      simp only [Act.put, List.setIfInBounds_toArray, List.set_cons_zero, List.set_cons_succ]
                      refine take_first 5 59 (v := ?vsxd_6) rfl rfl (by kernel_rfl) (by kernel_rfl) (by kernel_rfl) (fun _ _ _ h => h) (by rfl) ?ysxd_6 (by assumption) ?rsxd_6
                      case ysxd_6 => (intro w hSw; (try dsimp only at hSw); go_simp; (try with_reducible rfl))
                      simp only [Act.put, List.setIfInBounds_toArray, List.set_cons_zero, List.set_cons_succ]
                      refine take_first 6 60 (v := ?vsxd_7) rfl rfl (by kernel_rfl) (by kernel_rfl) (by kernel_rfl) (fun _ _ _ h => h) (by rfl) ?ysxd_7 (by assumption) ?rsxd_7
                      case ysxd_7 => (intro w hSw; (try dsimp only at hSw); go_simp; (try with_reducible rfl))
                      simp only [Act.put, List.setIfInBounds_toArray, List.set_cons_zero, List.set_cons_succ]
                      refine take_first 7 61 (v := ?vsxd_8) rfl rfl (by kernel_rfl) (by kernel_rfl) (by kernel_rfl) (fun _ _ _ h => h) (by rfl) ?ysxd_8 (by assumption) ?rsxd_8
                      case ysxd_8 => (intro w hSw; (try dsimp only at hSw); go_simp; (try with_reducible rfl))
                      simp only [Act.put, List.setIfInBounds_toArray, List.set_cons_zero, List.set_cons_succ]
                      refine pass_over 8 62 rfl rfl (by kernel_rfl) (by kernel_rfl) (by kernel_rfl) (fun _ _ _ h => h) (by rfl) (by assumption) ?rsxd_9
                      simp only [Act.put, List.setIfInBounds_toArray, List.set_cons_zero, List.set_cons_succ]
                      refine pass_over 9 63 rfl rfl (by kernel_rfl) (by kernel_rfl) (by kernel_rfl) (fun _ _ _ h => h) (by rfl) (by assumption) ?rsxd_10
                      simp only [Act.put, List.setIfInBounds_toArray, List.set_cons_zero, List.set_cons_succ]
                      refine pass_over 10 64 rfl rfl (by kernel_rfl) (by kernel_rfl) (by kernel_rfl) (fun _ _ _ h => h) (by rfl) (by assumption) ?rsxd_11
                      simp only [Act.put, List.setIfInBounds_toArray, List.set_cons_zero, List.set_cons_succ]
                      refine pass_over 11 65 rfl rfl (by kernel_rfl) (by kernel_rfl) (by kernel_rfl) (fun _ _ _ h => h) (by rfl) (by assumption) ?rsxd_12
                      simp only [Act.put, List.setIfInBounds_toArray, List.set_cons_zero, List.set_cons_succ]
                      refine pass_over 12 66 rfl rfl (by kernel_rfl) (by kernel_rfl) (by kernel_rfl) (fun _ _ _ h => h) (by rfl) (by assumption) ?rsxd_13
                      simp only [Act.put, List.setIfInBounds_toArray, List.set_cons_zero, List.set_cons_succ]
                      refine pass_over 13 67 rfl rfl (by kernel_rfl) (by kernel_rfl) (by kernel_rfl) (fun _ _ _ h => h) (by rfl) (by assumption) ?rsxd_14
                      simp only [Act.put, List.setIfInBounds_toArray, List.set_cons_zero, List.set_cons_succ]
                      refine pass_over 14 68 rfl rfl (by kernel_rfl) (by kernel_rfl) (by kernel_rfl) (fun _ _ _ h => h) (by rfl) (by assumption) ?rsxd_15
                      simp only [Act.put, List.setIfInBounds_toArray, List.set_cons_zero, List.set_cons_succ]
                      refine pass_over 15 69 rfl rfl (by kernel_rfl) (by kernel_rfl) (by kernel_rfl) (fun _ _ _ h => h) (by rfl) (by assumption) ?rsxd_16
                      simp only [Act.put, List.setIfInBounds_toArray, List.set_cons_zero, List.set_cons_succ]
                      refine pass_over 16 70 rfl rfl (by kernel_rfl) (by kernel_rfl) (by kernel_rfl) (fun _ _ _ h => h) (by rfl) (by assumption) ?rsxd_17
                      simp only [Act.put, List.setIfInBounds_toArray, List.set_cons_zero, List.set_cons_succ]
                      refine pass_over 17 71 rfl rfl (by kernel_rfl) (by kernel_rfl) (by kernel_rfl) (fun _ _ _ h => h) (by rfl) (by assumption) ?rsxd_18
                      simp only [Act.put, List.setIfInBounds_toArray, List.set_cons_zero, List.set_cons_succ]
                      refine take_first 18 72 (v := ?vsxd_19) rfl rfl (by kernel_rfl) (by kernel_rfl) (by kernel_rfl) (fun _ _ _ h => h) (by rfl) ?ysxd_19 (by assumption) ?rsxd_19
                      case ysxd_19 => (intro w hSw; (try dsimp only at hSw); go_simp; (try with_reducible rfl))
                      simp only [Act.put, List.setIfInBounds_toArray, List.set_cons_zero, List.set_cons_succ]
                      refine take_first 19 73 (v := ?vsxd_20) rfl rfl (by kernel_rfl) (by kernel_rfl) (by kernel_rfl) (fun _ _ _ h => h) (by rfl) ?ysxd_20 (by assumption) ?rsxd_20
                      case ysxd_20 => (intro w hSw; (try dsimp only at hSw); go_simp; (try with_reducible rfl))
                      simp only [Act.put, List.setIfInBounds_toArray, List.set_cons_zero, List.set_cons_succ]
                      refine take_first 20 74 (v := ?vsxd_21) rfl rfl (by kernel_rfl) (by kernel_rfl) (by kernel_rfl) (fun _ _ _ h => h) (by rfl) ?ysxd_21 (by assumption) ?rsxd_21
                      case ysxd_21 => (intro w hSw; (try dsimp only at hSw); go_simp; (try with_reducible rfl))
                      simp only [Act.put, List.setIfInBounds_toArray, List.set_cons_zero, List.set_cons_succ]
                      refine take_first 21 75 (v := ?vsxd_22) rfl rfl (by kernel_rfl) (by kernel_rfl) (by kernel_rfl) (fun _ _ _ h => h) (by rfl) ?ysxd_22 (by assumption) ?rsxd_22
                      case ysxd_22 => (intro w hSw; (try dsimp only at hSw); go_simp; (try with_reducible rfl))
                      simp only [Act.put, List.setIfInBounds_toArray, List.set_cons_zero, List.set_cons_succ]
                      refine take_first 22 76 (v := ?vsxd_23) rfl rfl (by kernel_rfl) (by kernel_rfl) (by kernel_rfl) (fun _ _ _ h => h) (by rfl) ?ysxd_23 (by assumption) ?rsxd_23
                      case ysxd_23 => (intro w hSw; (try dsimp only at hSw); go_simp; (try with_reducible rfl))
                      simp only [Act.put, List.setIfInBounds_toArray, List.set_cons_zero, List.set_cons_succ]
                      refine wpAnyH_ready (rs := [23]) (by kernel_rfl) (by simp) ?_
                      refine AllReadyH.cons (o := _) rfl (fun Ksxd_24 hKsxd_24 => ?csxd_24) ?msxd_24
                      case msxd_24 => exact AllReadyH.nil
                      go_simp
                      refine (l6Places_any _ _ yc (ints_row.1 (HCr.out _ HWb.out).1)).mono ?_; rintro e wc ⟨rfl, hbc⟩; rw [hC]; have HWe := Lib.hid (HWb.out.trans (hbc.mono HWb.out.size)); replace k0 := HAl.out _ HWe.out; clear hbc
                      go_wp2_with fail
                      refine hKsxd_24.out _ _ ?ksxd_24 (fun hHeldsxd_24 => ?dsxd_24)
                      case ksxd_24 => (first | (dsimp only; (first | with_reducible exact k0 | exact k0)) | (first | with_reducible exact k0 | exact k0))
                      clear hKsxd_24 Ksxd_24
                      refine take_first 24 78 (v := ?vsxd_25) rfl rfl (by kernel_rfl) (by kernel_rfl) (by kernel_rfl) (fun _ _ _ h => h) (by rfl) ?ysxd_25 (by assumption) ?rsxd_25
                      case ysxd_25 => (intro w hSw; (try dsimp only at hSw); go_simp; (try with_reducible rfl))
                      simp only [Act.put, List.setIfInBounds_toArray, List.set_cons_zero, List.set_cons_succ]
                      refine take_first 25 79 (v := ?vsxd_26) rfl rfl (by kernel_rfl) (by kernel_rfl) (by kernel_rfl) (fun _ _ _ h => h) (by rfl) ?ysxd_26 (by assumption) ?rsxd_26
                      case ysxd_26 => (intro w hSw; (try dsimp only at hSw); go_simp; (try with_reducible rfl))
                      simp only [Act.put, List.setIfInBounds_toArray, List.set_cons_zero, List.set_cons_succ]
                      refine take_first 26 80 (v := ?vsxd_27) rfl rfl (by kernel_rfl) (by kernel_rfl) (by kernel_rfl) (fun _ _ _ h => h) (by rfl) ?ysxd_27 (by assumption) ?rsxd_27
                      case ysxd_27 => (intro w hSw; (try dsimp only at hSw); go_simp; (try with_reducible rfl))
                      simp only [Act.put, List.setIfInBounds_toArray, List.set_cons_zero, List.set_cons_succ]
                      refine take_first 27 81 (v := ?vsxd_28) rfl rfl (by kernel_rfl) (by kernel_rfl) (by kernel_rfl) (fun _ _ _ h => h) (by rfl) ?ysxd_28 (by assumption) ?rsxd_28
                      case ysxd_28 => (intro w hSw; (try dsimp only at hSw); go_simp; (try with_reducible rfl))
                      simp only [Act.put, List.setIfInBounds_toArray, List.set_cons_zero, List.set_cons_succ]
                      refine take_first 28 82 (v := ?vsxd_29) rfl rfl (by kernel_rfl) (by kernel_rfl) (by kernel_rfl) (fun _ _ _ h => h) (by rfl) ?ysxd_29 (by assumption) ?rsxd_29
                      case ysxd_29 => (intro w hSw; (try dsimp only at hSw); go_simp; (try with_reducible rfl))
                      simp only [Act.put, List.setIfInBounds_toArray, List.set_cons_zero, List.set_cons_succ]
                      refine wpAnyH_ready (rs := [29]) (by kernel_rfl) (by simp) ?_
                      refine AllReadyH.cons (o := _) rfl (fun Ksxd_30 hKsxd_30 => ?csxd_30) ?msxd_30
                      case msxd_30 => exact AllReadyH.nil
                      go_simp
                      refine (l6Places_any _ _ yk (ints_row.1 (HCr.out _ HWe.out).2)).mono ?_; rintro e wd ⟨rfl, hbd⟩; rw [hD]; have HWf := Lib.hid (HWe.out.trans (hbd.mono HWe.out.size)); replace k0 := HAl.out _ HWf.out; clear hbd
                      go_wp2_with fail
                      refine hKsxd_30.out _ _ ?ksxd_30 (fun hHeldsxd_30 => ?dsxd_30)
                      case ksxd_30 => (first | (dsimp only; (first | with_reducible exact k0 | exact k0)) | (first | with_reducible exact k0 | exact k0))
                      clear hKsxd_30 Ksxd_30
                      refine take_first 30 84 (v := ?vsxd_31) rfl rfl (by kernel_rfl) (by kernel_rfl) (by kernel_rfl) (fun _ _ _ h => h) (by rfl) ?ysxd_31 (by assumption) ?rsxd_31
                      case ysxd_31 => (intro w hSw; (try dsimp only at hSw); go_simp; (try with_reducible rfl))
                      simp only [Act.put, List.setIfInBounds_toArray, List.set_cons_zero, List.set_cons_succ]
                      refine take_first 31 85 (v := ?vsxd_32) rfl rfl (by kernel_rfl) (by kernel_rfl) (by kernel_rfl) (fun _ _ _ h => h) (by rfl) ?ysxd_32 (by assumption) ?rsxd_32
                      case ysxd_32 => (intro w hSw; (try dsimp only at hSw); go_simp; (try with_reducible rfl))
                      simp only [Act.put, List.setIfInBounds_toArray, List.set_cons_zero, List.set_cons_succ]
                      refine take_first 32 86 (v := ?vsxd_33) rfl rfl (by kernel_rfl) (by kernel_rfl) (by kernel_rfl) (fun _ _ _ h => h) (by rfl) ?ysxd_33 (by assumption) ?rsxd_33
                      case ysxd_33 => (intro w hSw; (try dsimp only at hSw); go_simp; (try with_reducible rfl))
                      simp only [Act.put, List.setIfInBounds_toArray, List.set_cons_zero, List.set_cons_succ]
                      refine pass_over 33 87 rfl rfl (by kernel_rfl) (by kernel_rfl) (by kernel_rfl) (fun _ _ _ h => h) (by rfl) (by assumption) ?rsxd_34
                      simp only [Act.put, List.setIfInBounds_toArray, List.set_cons_zero, List.set_cons_succ]
                      refine pass_over 34 88 rfl rfl (by kernel_rfl) (by kernel_rfl) (by kernel_rfl) (fun _ _ _ h => h) (by rfl) (by assumption) ?rsxd_35
                      simp only [Act.put, List.setIfInBounds_toArray, List.set_cons_zero, List.set_cons_succ]
                      refine pass_over 35 89 rfl rfl (by kernel_rfl) (by kernel_rfl) (by kernel_rfl) (fun _ _ _ h => h) (by rfl) (by assumption) ?rsxd_36
                      simp only [Act.put, List.setIfInBounds_toArray, List.set_cons_zero, List.set_cons_succ]
                      refine pass_over 36 90 rfl rfl (by kernel_rfl) (by kernel_rfl) (by kernel_rfl) (fun _ _ _ h => h) (by rfl) (by assumption) ?rsxd_37
                      simp only [Act.put, List.setIfInBounds_toArray, List.set_cons_zero, List.set_cons_succ]
                      refine pass_over 37 91 rfl rfl (by kernel_rfl) (by kernel_rfl) (by kernel_rfl) (fun _ _ _ h => h) (by rfl) (by assumption) ?rsxd_38
                      simp only [Act.put, List.setIfInBounds_toArray, List.set_cons_zero, List.set_cons_succ]
                      refine pass_over 38 92 rfl rfl (by kernel_rfl) (by kernel_rfl) (by kernel_rfl) (fun _ _ _ h => h) (by rfl) (by assumption) ?rsxd_39
                      simp only [Act.put, List.setIfInBounds_toArray, List.set_cons_zero, List.set_cons_succ]
                      refine pass_over 39 93 rfl rfl (by kernel_rfl) (by kernel_rfl) (by kernel_rfl) (fun _ _ _ h => h) (by rfl) (by assumption) ?rsxd_40
                      simp only [Act.put, List.setIfInBounds_toArray, List.set_cons_zero, List.set_cons_succ]
                      refine pass_over 40 94 rfl rfl (by kernel_rfl) (by kernel_rfl) (by kernel_rfl) (fun _ _ _ h => h) (by rfl) (by assumption) ?rsxd_41
                      simp only [Act.put, List.setIfInBounds_toArray, List.set_cons_zero, List.set_cons_succ]
                      refine pass_over 41 95 rfl rfl (by kernel_rfl) (by kernel_rfl) (by kernel_rfl) (fun _ _ _ h => h) (by rfl) (by assumption) ?rsxd_42
                      simp only [Act.put, List.setIfInBounds_toArray, List.set_cons_zero, List.set_cons_succ]
                      refine pass_over 42 96 rfl rfl (by kernel_rfl) (by kernel_rfl) (by kernel_rfl) (fun _ _ _ h => h) (by rfl) (by assumption) ?rsxd_43
                      simp only [Act.put, List.setIfInBounds_toArray, List.set_cons_zero, List.set_cons_succ]
                      refine take_first 43 97 (v := ?vsxd_44) rfl rfl (by kernel_rfl) (by kernel_rfl) (by kernel_rfl) (fun _ _ _ h => h) (by rfl) ?ysxd_44 (by assumption) ?rsxd_44
                      case ysxd_44 => (intro w hSw; (try dsimp only at hSw); go_simp; (try with_reducible rfl))
                      simp only [Act.put, List.setIfInBounds_toArray, List.set_cons_zero, List.set_cons_succ]
                      refine wpAnyH_done (by kernel_rfl) ?esxd _
                      clear k0
                      have HBz := Lib.hid (HYr.out _ (HGo.out _ HWf.out)).2
                      go_wp2
                      go_ret
                      exact ⟨ret_bool HNo.out.symm, HBz.out⟩
                    | true =>
                      cases hl : (lastK x.disk.notes yt == 2) with
                      | true =>
                        cases yy with
                        | false =>
                          have HNo := Lib.hid (show froB x = false from fro_false (.inr (.inr (.inr (by rw [HI.out, HW.out, show actB ⟨yt, yo, false, yc, yk⟩ (lastK x.disk.notes yt == 2) = false by (rw [HV.out, hl]; simp)]; rfl)))))
                          refine wp_region_held_drew (S := (fun w' => w'.cell? ⟨w.heap.size, 2, none⟩ = some (.slice (some ⟨bw, ow, none⟩) x.way.length cw) ∧ w'.cell? ⟨w.heap.size, 0, none⟩ = some (.slice An x.disk.notes.length cn) ∧ w'.cell? ⟨wr.heap.size, 0, none⟩ = some (.int .i64 yt) ∧ w'.cell? ⟨wr.heap.size, 1, none⟩ = some (.int .i64 yo.kind) ∧ w'.cell? ⟨wr.heap.size, 2, none⟩ = some (.int .i64 yo.who) ∧ w'.cell? ⟨wr.heap.size, 3, none⟩ = some (.int .i64 yo.inn) ∧ w'.cell? ⟨wr.heap.size, 4, none⟩ = some (.int .i64 yo.code) ∧ w'.cell? ⟨wr.heap.size, 5, none⟩ = some (.int .i64 yo.sec) ∧ w'.cell? ⟨wr.heap.size, 6, none⟩ = some (.int .i64 yo.fam) ∧ w'.cell? ⟨wr.heap.size, 7, none⟩ = some (.int .i64 yo.gen) ∧ w'.cell? ⟨wr.heap.size, 8, none⟩ = some (.bool false) ∧ w'.cell? ⟨wr.heap.size, 9, none⟩ = some (.slice Ac yc.length cc) ∧ w'.cell? ⟨wr.heap.size, 10, none⟩ = some (.slice Ak yk.length ck))) (by kernel_rfl) ?hSsxe0 (fun hHeldsxe0 => ?stsxe0)
                          case hSsxe0 => (first | (dsimp only; (first | with_reducible exact k0 | exact k0)) | (first | with_reducible exact k0 | exact k0))
                          refine take_first 0 54 (v := ?vsxe0_1) rfl rfl (by kernel_rfl) (by kernel_rfl) (by kernel_rfl) (fun _ _ _ h => h) (by rfl) ?ysxe0_1 (by assumption) ?rsxe0_1
                          case ysxe0_1 => (intro w hSw; (try dsimp only at hSw); go_simp; (try with_reducible rfl))
                          simp only [Act.put, List.setIfInBounds_toArray, List.set_cons_zero, List.set_cons_succ]
                          refine take_first 1 55 (v := ?vsxe0_2) rfl rfl (by kernel_rfl) (by kernel_rfl) (by kernel_rfl) (fun _ _ _ h => h) (by rfl) ?ysxe0_2 (by assumption) ?rsxe0_2
                          case ysxe0_2 => (intro w hSw; (try dsimp only at hSw); go_simp; (try with_reducible rfl))
                          simp only [Act.put, List.setIfInBounds_toArray, List.set_cons_zero, List.set_cons_succ]
                          refine wpAnyH_ready (rs := [2]) (by kernel_rfl) (by simp) ?_
                          refine AllReadyH.cons (o := _) rfl (fun Ksxe0_3 hKsxe0_3 => ?csxe0_3) ?msxe0_3
                          case msxe0_3 => exact AllReadyH.nil
                          go_simp
                          refine (l1In_any _ _ _ _).mono ?_; rintro e wz ⟨rfl, rfl⟩; rw [hA]
                          go_wp2_with fail
                          refine hKsxe0_3.out _ _ ?ksxe0_3 (fun hHeldsxe0_3 => ?dsxe0_3)
                          case ksxe0_3 => (first | (dsimp only; (first | with_reducible exact k0 | exact k0)) | (first | with_reducible exact k0 | exact k0))
                          clear hKsxe0_3 Ksxe0_3
                          refine take_first 3 57 (v := ?vsxe0_4) rfl rfl (by kernel_rfl) (by kernel_rfl) (by kernel_rfl) (fun _ _ _ h => h) (by rfl) ?ysxe0_4 (by assumption) ?rsxe0_4
                          case ysxe0_4 => (intro w hSw; (try dsimp only at hSw); go_simp; (try with_reducible rfl))
                          simp only [Act.put, List.setIfInBounds_toArray, List.set_cons_zero, List.set_cons_succ]
                          refine take_first 4 58 (v := ?vsxe0_5) rfl rfl (by kernel_rfl) (by kernel_rfl) (by kernel_rfl) (fun _ _ _ h => h) (by rfl) ?ysxe0_5 (by assumption) ?rsxe0_5
                          case ysxe0_5 => (intro w hSw; (try dsimp only at hSw); go_simp; (try with_reducible rfl))
                          simp only [Act.put, List.setIfInBounds_toArray, List.set_cons_zero, List.set_cons_succ]
                          refine take_first 5 59 (v := ?vsxe0_6) rfl rfl (by kernel_rfl) (by kernel_rfl) (by kernel_rfl) (fun _ _ _ h => h) (by rfl) ?ysxe0_6 (by assumption) ?rsxe0_6
                          case ysxe0_6 => (intro w hSw; (try dsimp only at hSw); go_simp; (try with_reducible rfl))
                          simp only [Act.put, List.setIfInBounds_toArray, List.set_cons_zero, List.set_cons_succ]
                          refine take_first 6 60 (v := ?vsxe0_7) rfl rfl (by kernel_rfl) (by kernel_rfl) (by kernel_rfl) (fun _ _ _ h => h) (by rfl) ?ysxe0_7 (by assumption) ?rsxe0_7
                          case ysxe0_7 => (intro w hSw; (try dsimp only at hSw); go_simp; (try with_reducible rfl))
                          simp only [Act.put, List.setIfInBounds_toArray, List.set_cons_zero, List.set_cons_succ]
                          refine take_first 7 61 (v := ?vsxe0_8) rfl rfl (by kernel_rfl) (by kernel_rfl) (by kernel_rfl) (fun _ _ _ h => h) (by rfl) ?ysxe0_8 (by assumption) ?rsxe0_8
                          case ysxe0_8 => (intro w hSw; (try dsimp only at hSw); go_simp; (try with_reducible rfl))
                          simp only [Act.put, List.setIfInBounds_toArray, List.set_cons_zero, List.set_cons_succ]
                          refine pass_over 8 62 rfl rfl (by kernel_rfl) (by kernel_rfl) (by kernel_rfl) (fun _ _ _ h => h) (by rfl) (by assumption) ?rsxe0_9
                          simp only [Act.put, List.setIfInBounds_toArray, List.set_cons_zero, List.set_cons_succ]
                          refine pass_over 9 63 rfl rfl (by kernel_rfl) (by kernel_rfl) (by kernel_rfl) (fun _ _ _ h => h) (by rfl) (by assumption) ?rsxe0_10
                          simp only [Act.put, List.setIfInBounds_toArray, List.set_cons_zero, List.set_cons_succ]
                          refine pass_over 10 64 rfl rfl (by kernel_rfl) (by kernel_rfl) (by kernel_rfl) (fun _ _ _ h => h) (by rfl) (by assumption) ?rsxe0_11
                          simp only [Act.put, List.setIfInBounds_toArray, List.set_cons_zero, List.set_cons_succ]
                          refine pass_over 11 65 rfl rfl (by kernel_rfl) (by kernel_rfl) (by kernel_rfl) (fun _ _ _ h => h) (by rfl) (by assumption) ?rsxe0_12
                          simp only [Act.put, List.setIfInBounds_toArray, List.set_cons_zero, List.set_cons_succ]
                          refine pass_over 12 66 rfl rfl (by kernel_rfl) (by kernel_rfl) (by kernel_rfl) (fun _ _ _ h => h) (by rfl) (by assumption) ?rsxe0_13
                          simp only [Act.put, List.setIfInBounds_toArray, List.set_cons_zero, List.set_cons_succ]
                          refine pass_over 13 67 rfl rfl (by kernel_rfl) (by kernel_rfl) (by kernel_rfl) (fun _ _ _ h => h) (by rfl) (by assumption) ?rsxe0_14
                          simp only [Act.put, List.setIfInBounds_toArray, List.set_cons_zero, List.set_cons_succ]
                          refine pass_over 14 68 rfl rfl (by kernel_rfl) (by kernel_rfl) (by kernel_rfl) (fun _ _ _ h => h) (by rfl) (by assumption) ?rsxe0_15
                          simp only [Act.put, List.setIfInBounds_toArray, List.set_cons_zero, List.set_cons_succ]
                          refine pass_over 15 69 rfl rfl (by kernel_rfl) (by kernel_rfl) (by kernel_rfl) (fun _ _ _ h => h) (by rfl) (by assumption) ?rsxe0_16
                          simp only [Act.put, List.setIfInBounds_toArray, List.set_cons_zero, List.set_cons_succ]
                          refine pass_over 16 70 rfl rfl (by kernel_rfl) (by kernel_rfl) (by kernel_rfl) (fun _ _ _ h => h) (by rfl) (by assumption) ?rsxe0_17
                          simp only [Act.put, List.setIfInBounds_toArray, List.set_cons_zero, List.set_cons_succ]
                          refine pass_over 17 71 rfl rfl (by kernel_rfl) (by kernel_rfl) (by kernel_rfl) (fun _ _ _ h => h) (by rfl) (by assumption) ?rsxe0_18
                          simp only [Act.put, List.setIfInBounds_toArray, List.set_cons_zero, List.set_cons_succ]
                          refine take_first 18 72 (v := ?vsxe0_19) rfl rfl (by kernel_rfl) (by kernel_rfl) (by kernel_rfl) (fun _ _ _ h => h) (by rfl) ?ysxe0_19 (by assumption) ?rsxe0_19
                          case ysxe0_19 => (intro w hSw; (try dsimp only at hSw); go_simp; (try with_reducible rfl))
                          simp only [Act.put, List.setIfInBounds_toArray, List.set_cons_zero, List.set_cons_succ]
                          refine take_first 19 73 (v := ?vsxe0_20) rfl rfl (by kernel_rfl) (by kernel_rfl) (by kernel_rfl) (fun _ _ _ h => h) (by rfl) ?ysxe0_20 (by assumption) ?rsxe0_20
                          case ysxe0_20 => (intro w hSw; (try dsimp only at hSw); go_simp; (try with_reducible rfl))
                          simp only [Act.put, List.setIfInBounds_toArray, List.set_cons_zero, List.set_cons_succ]
                          refine take_first 20 74 (v := ?vsxe0_21) rfl rfl (by kernel_rfl) (by kernel_rfl) (by kernel_rfl) (fun _ _ _ h => h) (by rfl) ?ysxe0_21 (by assumption) ?rsxe0_21
                          case ysxe0_21 => (intro w hSw; (try dsimp only at hSw); go_simp; (try with_reducible rfl))
                          simp only [Act.put, List.setIfInBounds_toArray, List.set_cons_zero, List.set_cons_succ]
                          refine take_first 21 75 (v := ?vsxe0_22) rfl rfl (by kernel_rfl) (by kernel_rfl) (by kernel_rfl) (fun _ _ _ h => h) (by rfl) ?ysxe0_22 (by assumption) ?rsxe0_22
                          case ysxe0_22 => (intro w hSw; (try dsimp only at hSw); go_simp; (try with_reducible rfl))
                          simp only [Act.put, List.setIfInBounds_toArray, List.set_cons_zero, List.set_cons_succ]
                          refine take_first 22 76 (v := ?vsxe0_23) rfl rfl (by kernel_rfl) (by kernel_rfl) (by kernel_rfl) (fun _ _ _ h => h) (by rfl) ?ysxe0_23 (by assumption) ?rsxe0_23
                          case ysxe0_23 => (intro w hSw; (try dsimp only at hSw); go_simp; (try with_reducible rfl))
                          simp only [Act.put, List.setIfInBounds_toArray, List.set_cons_zero, List.set_cons_succ]
                          refine wpAnyH_ready (rs := [23]) (by kernel_rfl) (by simp) ?_
                          refine AllReadyH.cons (o := _) rfl (fun Ksxe0_24 hKsxe0_24 => ?csxe0_24) ?msxe0_24
                          case msxe0_24 => exact AllReadyH.nil
                          go_simp
                          refine (l6Places_any _ _ yc (ints_row.1 (HCr.out _ HWb.out).1)).mono ?_; rintro e wc ⟨rfl, hbc⟩; rw [hC]; have HWe := Lib.hid (HWb.out.trans (hbc.mono HWb.out.size)); replace k0 := HAl.out _ HWe.out; clear hbc
                          go_wp2_with fail
                          refine hKsxe0_24.out _ _ ?ksxe0_24 (fun hHeldsxe0_24 => ?dsxe0_24)
                          case ksxe0_24 => (first | (dsimp only; (first | with_reducible exact k0 | exact k0)) | (first | with_reducible exact k0 | exact k0))
                          clear hKsxe0_24 Ksxe0_24
                          refine take_first 24 78 (v := ?vsxe0_25) rfl rfl (by kernel_rfl) (by kernel_rfl) (by kernel_rfl) (fun _ _ _ h => h) (by rfl) ?ysxe0_25 (by assumption) ?rsxe0_25
                          case ysxe0_25 => (intro w hSw; (try dsimp only at hSw); go_simp; (try with_reducible rfl))
                          simp only [Act.put, List.setIfInBounds_toArray, List.set_cons_zero, List.set_cons_succ]
                          refine take_first 25 79 (v := ?vsxe0_26) rfl rfl (by kernel_rfl) (by kernel_rfl) (by kernel_rfl) (fun _ _ _ h => h) (by rfl) ?ysxe0_26 (by assumption) ?rsxe0_26
                          case ysxe0_26 => (intro w hSw; (try dsimp only at hSw); go_simp; (try with_reducible rfl))
                          simp only [Act.put, List.setIfInBounds_toArray, List.set_cons_zero, List.set_cons_succ]
                          refine take_first 26 80 (v := ?vsxe0_27) rfl rfl (by kernel_rfl) (by kernel_rfl) (by kernel_rfl) (fun _ _ _ h => h) (by rfl) ?ysxe0_27 (by assumption) ?rsxe0_27
                          case ysxe0_27 => (intro w hSw; (try dsimp only at hSw); go_simp; (try with_reducible rfl))
                          simp only [Act.put, List.setIfInBounds_toArray, List.set_cons_zero, List.set_cons_succ]
                          refine take_first 27 81 (v := ?vsxe0_28) rfl rfl (by kernel_rfl) (by kernel_rfl) (by kernel_rfl) (fun _ _ _ h => h) (by rfl) ?ysxe0_28 (by assumption) ?rsxe0_28
                          case ysxe0_28 => (intro w hSw; (try dsimp only at hSw); go_simp; (try with_reducible rfl))
                          simp only [Act.put, List.setIfInBounds_toArray, List.set_cons_zero, List.set_cons_succ]
                          refine take_first 28 82 (v := ?vsxe0_29) rfl rfl (by kernel_rfl) (by kernel_rfl) (by kernel_rfl) (fun _ _ _ h => h) (by rfl) ?ysxe0_29 (by assumption) ?rsxe0_29
                          case ysxe0_29 => (intro w hSw; (try dsimp only at hSw); go_simp; (try with_reducible rfl))
                          simp only [Act.put, List.setIfInBounds_toArray, List.set_cons_zero, List.set_cons_succ]
                          refine wpAnyH_ready (rs := [29]) (by kernel_rfl) (by simp) ?_
                          refine AllReadyH.cons (o := _) rfl (fun Ksxe0_30 hKsxe0_30 => ?csxe0_30) ?msxe0_30
                          case msxe0_30 => exact AllReadyH.nil
                          go_simp
                          refine (l6Places_any _ _ yk (ints_row.1 (HCr.out _ HWe.out).2)).mono ?_; rintro e wd ⟨rfl, hbd⟩; rw [hD]; have HWf := Lib.hid (HWe.out.trans (hbd.mono HWe.out.size)); replace k0 := HAl.out _ HWf.out; clear hbd
                          go_wp2_with fail
                          refine hKsxe0_30.out _ _ ?ksxe0_30 (fun hHeldsxe0_30 => ?dsxe0_30)
                          case ksxe0_30 => (first | (dsimp only; (first | with_reducible exact k0 | exact k0)) | (first | with_reducible exact k0 | exact k0))
                          clear hKsxe0_30 Ksxe0_30
                          refine take_first 30 84 (v := ?vsxe0_31) rfl rfl (by kernel_rfl) (by kernel_rfl) (by kernel_rfl) (fun _ _ _ h => h) (by rfl) ?ysxe0_31 (by assumption) ?rsxe0_31
                          case ysxe0_31 => (intro w hSw; (try dsimp only at hSw); go_simp; (try with_reducible rfl))
                          simp only [Act.put, List.setIfInBounds_toArray, List.set_cons_zero, List.set_cons_succ]
                          refine take_first 31 85 (v := ?vsxe0_32) rfl rfl (by kernel_rfl) (by kernel_rfl) (by kernel_rfl) (fun _ _ _ h => h) (by rfl) ?ysxe0_32 (by assumption) ?rsxe0_32
                          case ysxe0_32 => (intro w hSw; (try dsimp only at hSw); go_simp; (try with_reducible rfl))
                          simp only [Act.put, List.setIfInBounds_toArray, List.set_cons_zero, List.set_cons_succ]
                          refine take_first 32 86 (v := ?vsxe0_33) rfl rfl (by kernel_rfl) (by kernel_rfl) (by kernel_rfl) (fun _ _ _ h => h) (by rfl) ?ysxe0_33 (by assumption) ?rsxe0_33
                          case ysxe0_33 => (intro w hSw; (try dsimp only at hSw); go_simp; (try with_reducible rfl))
                          simp only [Act.put, List.setIfInBounds_toArray, List.set_cons_zero, List.set_cons_succ]
                          refine take_first 33 87 (v := ?vsxe0_34) rfl rfl (by kernel_rfl) (by kernel_rfl) (by kernel_rfl) (fun _ _ _ h => h) (by rfl) ?ysxe0_34 (by assumption) ?rsxe0_34
                          case ysxe0_34 => (intro w hSw; (try dsimp only at hSw); go_simp; (try with_reducible rfl))
                          simp only [Act.put, List.setIfInBounds_toArray, List.set_cons_zero, List.set_cons_succ]
                          refine take_first 34 88 (v := ?vsxe0_35) rfl rfl (by kernel_rfl) (by kernel_rfl) (by kernel_rfl) (fun _ _ _ h => h) (by rfl) ?ysxe0_35 (by assumption) ?rsxe0_35
                          case ysxe0_35 => (intro w hSw; (try dsimp only at hSw); go_simp; (try with_reducible rfl))
                          simp only [Act.put, List.setIfInBounds_toArray, List.set_cons_zero, List.set_cons_succ]
                          refine take_first 35 89 (v := ?vsxe0_36) rfl rfl (by kernel_rfl) (by kernel_rfl) (by kernel_rfl) (fun _ _ _ h => h) (by rfl) ?ysxe0_36 (by assumption) ?rsxe0_36
                          case ysxe0_36 => (intro w hSw; (try dsimp only at hSw); go_simp; (try with_reducible rfl))
                          simp only [Act.put, List.setIfInBounds_toArray, List.set_cons_zero, List.set_cons_succ]
                          refine take_first 36 90 (v := ?vsxe0_37) rfl rfl (by kernel_rfl) (by kernel_rfl) (by kernel_rfl) (fun _ _ _ h => h) (by rfl) ?ysxe0_37 (by assumption) ?rsxe0_37
                          case ysxe0_37 => (intro w hSw; (try dsimp only at hSw); go_simp; (try with_reducible rfl))
                          simp only [Act.put, List.setIfInBounds_toArray, List.set_cons_zero, List.set_cons_succ]
                          refine take_first 37 91 (v := ?vsxe0_38) rfl rfl (by kernel_rfl) (by kernel_rfl) (by kernel_rfl) (fun _ _ _ h => h) (by rfl) ?ysxe0_38 (by assumption) ?rsxe0_38
                          case ysxe0_38 => (intro w hSw; (try dsimp only at hSw); go_simp; (try with_reducible rfl))
                          simp only [Act.put, List.setIfInBounds_toArray, List.set_cons_zero, List.set_cons_succ]
                          refine take_first 38 92 (v := ?vsxe0_39) rfl rfl (by kernel_rfl) (by kernel_rfl) (by kernel_rfl) (fun _ _ _ h => h) (by rfl) ?ysxe0_39 (by assumption) ?rsxe0_39
                          case ysxe0_39 => (intro w hSw; (try dsimp only at hSw); go_simp; (try with_reducible rfl))
                          simp only [Act.put, List.setIfInBounds_toArray, List.set_cons_zero, List.set_cons_succ]
                          refine take_first 39 93 (v := ?vsxe0_40) rfl rfl (by kernel_rfl) (by kernel_rfl) (by kernel_rfl) (fun _ _ _ h => h) (by rfl) ?ysxe0_40 (by assumption) ?rsxe0_40
                          case ysxe0_40 => (intro w hSw; (try dsimp only at hSw); go_simp; (try with_reducible rfl))
                          simp only [Act.put, List.setIfInBounds_toArray, List.set_cons_zero, List.set_cons_succ]
                          refine wpAnyH_ready (rs := [40]) (by kernel_rfl) (by simp) ?_
                          refine AllReadyH.cons (o := _) rfl (fun Ksxe0_41 hKsxe0_41 => ?csxe0_41) ?msxe0_41
                          case msxe0_41 => exact AllReadyH.nil
                          go_simp
                          refine (l2Of_any _ _ _ x.disk.notes yt (HNr.out _ (HGo.out _ HWf.out))).mono ?_; rintro e we ⟨rfl, rfl⟩
                          go_wp2_with fail
                          refine hKsxe0_41.out _ _ ?ksxe0_41 (fun hHeldsxe0_41 => ?dsxe0_41)
                          case ksxe0_41 => (first | (dsimp only; (first | with_reducible exact k0 | exact k0)) | (first | with_reducible exact k0 | exact k0))
                          clear hKsxe0_41 Ksxe0_41
                          refine take_first 41 95 (v := ?vsxe0_42) rfl rfl (by kernel_rfl) (by kernel_rfl) (by kernel_rfl) (fun _ _ _ h => h) (by rfl) ?ysxe0_42 (by assumption) ?rsxe0_42
                          case ysxe0_42 => (intro w hSw; (try dsimp only at hSw); go_simp; (try with_reducible rfl))
                          simp only [Act.put, List.setIfInBounds_toArray, List.set_cons_zero, List.set_cons_succ]
                          refine take_first 42 96 (v := ?vsxe0_43) rfl rfl (by kernel_rfl) (by kernel_rfl) (by kernel_rfl) (fun _ _ _ h => h) (by rfl) ?ysxe0_43 (by assumption) ?rsxe0_43
                          case ysxe0_43 => (intro w hSw; (try dsimp only at hSw); go_simp; (try with_reducible rfl))
                          simp only [Act.put, List.setIfInBounds_toArray, List.set_cons_zero, List.set_cons_succ]
                          refine take_first 43 97 (v := ?vsxe0_44) rfl rfl (by kernel_rfl) (by kernel_rfl) (by kernel_rfl) (fun _ _ _ h => h) (by rfl) ?ysxe0_44 (by assumption) ?rsxe0_44
                          case ysxe0_44 => (intro w hSw; (try dsimp only at hSw); go_simp; (try with_reducible rfl))
                          simp only [Act.put, List.setIfInBounds_toArray, List.set_cons_zero, List.set_cons_succ]
                          refine wpAnyH_done (by kernel_rfl) ?esxe0 _
                          clear k0
                          have HBz := Lib.hid (HYr.out _ (HGo.out _ HWf.out)).2
                          go_wp2
                          go_ret
                          exact ⟨ret_bool HNo.out.symm, HBz.out⟩
                        | true =>
                          have ha : actB ⟨yt, yo, true, yc, yk⟩ (lastK x.disk.notes yt == 2) = true := by rw [HV.out, hl, hA, hC, hD]; rfl
                          have HSt := Lib.hid (show wayB x.disk.notes (-1) x.way = wayB x.disk.notes (pvT x.way (0 + 1)) (x.way.drop (0 + 1)) by
                            have hp : 0 ≤ yt := act_pos ha
                            rw [HI.out, HW.out, ha, show pvT x.way 0 = -1 from rfl, show decide ((-1 : Int) < yt) = true by simp; omega]; rfl)
                          clear ha
                          refine wp_region_held_drew (S := (fun w' => w'.cell? ⟨w.heap.size, 2, none⟩ = some (.slice (some ⟨bw, ow, none⟩) x.way.length cw) ∧ w'.cell? ⟨w.heap.size, 0, none⟩ = some (.slice An x.disk.notes.length cn) ∧ w'.cell? ⟨wr.heap.size, 0, none⟩ = some (.int .i64 yt) ∧ w'.cell? ⟨wr.heap.size, 1, none⟩ = some (.int .i64 yo.kind) ∧ w'.cell? ⟨wr.heap.size, 2, none⟩ = some (.int .i64 yo.who) ∧ w'.cell? ⟨wr.heap.size, 3, none⟩ = some (.int .i64 yo.inn) ∧ w'.cell? ⟨wr.heap.size, 4, none⟩ = some (.int .i64 yo.code) ∧ w'.cell? ⟨wr.heap.size, 5, none⟩ = some (.int .i64 yo.sec) ∧ w'.cell? ⟨wr.heap.size, 6, none⟩ = some (.int .i64 yo.fam) ∧ w'.cell? ⟨wr.heap.size, 7, none⟩ = some (.int .i64 yo.gen) ∧ w'.cell? ⟨wr.heap.size, 8, none⟩ = some (.bool true) ∧ w'.cell? ⟨wr.heap.size, 9, none⟩ = some (.slice Ac yc.length cc) ∧ w'.cell? ⟨wr.heap.size, 10, none⟩ = some (.slice Ak yk.length ck))) (by kernel_rfl) ?hSsxf1 (fun hHeldsxf1 => ?stsxf1)
                          case hSsxf1 => (first | (dsimp only; (first | with_reducible exact k0 | exact k0)) | (first | with_reducible exact k0 | exact k0))
                          refine take_first 0 54 (v := ?vsxf1_1) rfl rfl (by kernel_rfl) (by kernel_rfl) (by kernel_rfl) (fun _ _ _ h => h) (by rfl) ?ysxf1_1 (by assumption) ?rsxf1_1
                          case ysxf1_1 => (intro w hSw; (try dsimp only at hSw); go_simp; (try with_reducible rfl))
                          simp only [Act.put, List.setIfInBounds_toArray, List.set_cons_zero, List.set_cons_succ]
                          refine take_first 1 55 (v := ?vsxf1_2) rfl rfl (by kernel_rfl) (by kernel_rfl) (by kernel_rfl) (fun _ _ _ h => h) (by rfl) ?ysxf1_2 (by assumption) ?rsxf1_2
                          case ysxf1_2 => (intro w hSw; (try dsimp only at hSw); go_simp; (try with_reducible rfl))
                          simp only [Act.put, List.setIfInBounds_toArray, List.set_cons_zero, List.set_cons_succ]
                          refine wpAnyH_ready (rs := [2]) (by kernel_rfl) (by simp) ?_
                          refine AllReadyH.cons (o := _) rfl (fun Ksxf1_3 hKsxf1_3 => ?csxf1_3) ?msxf1_3
                          case msxf1_3 => exact AllReadyH.nil
                          go_simp
                          refine (l1In_any _ _ _ _).mono ?_; rintro e wz ⟨rfl, rfl⟩; rw [hA]
                          go_wp2_with fail
                          refine hKsxf1_3.out _ _ ?ksxf1_3 (fun hHeldsxf1_3 => ?dsxf1_3)
                          case ksxf1_3 => (first | (dsimp only; (first | with_reducible exact k0 | exact k0)) | (first | with_reducible exact k0 | exact k0))
                          clear hKsxf1_3 Ksxf1_3
                          refine take_first 3 57 (v := ?vsxf1_4) rfl rfl (by kernel_rfl) (by kernel_rfl) (by kernel_rfl) (fun _ _ _ h => h) (by rfl) ?ysxf1_4 (by assumption) ?rsxf1_4
                          case ysxf1_4 => (intro w hSw; (try dsimp only at hSw); go_simp; (try with_reducible rfl))
                          simp only [Act.put, List.setIfInBounds_toArray, List.set_cons_zero, List.set_cons_succ]
                          refine take_first 4 58 (v := ?vsxf1_5) rfl rfl (by kernel_rfl) (by kernel_rfl) (by kernel_rfl) (fun _ _ _ h => h) (by rfl) ?ysxf1_5 (by assumption) ?rsxf1_5
                          case ysxf1_5 => (intro w hSw; (try dsimp only at hSw); go_simp; (try with_reducible rfl))
                          simp only [Act.put, List.setIfInBounds_toArray, List.set_cons_zero, List.set_cons_succ]
                          refine take_first 5 59 (v := ?vsxf1_6) rfl rfl (by kernel_rfl) (by kernel_rfl) (by kernel_rfl) (fun _ _ _ h => h) (by rfl) ?ysxf1_6 (by assumption) ?rsxf1_6
                          case ysxf1_6 => (intro w hSw; (try dsimp only at hSw); go_simp; (try with_reducible rfl))
                          simp only [Act.put, List.setIfInBounds_toArray, List.set_cons_zero, List.set_cons_succ]
                          refine take_first 6 60 (v := ?vsxf1_7) rfl rfl (by kernel_rfl) (by kernel_rfl) (by kernel_rfl) (fun _ _ _ h => h) (by rfl) ?ysxf1_7 (by assumption) ?rsxf1_7
                          case ysxf1_7 => (intro w hSw; (try dsimp only at hSw); go_simp; (try with_reducible rfl))
                          simp only [Act.put, List.setIfInBounds_toArray, List.set_cons_zero, List.set_cons_succ]
                          refine take_first 7 61 (v := ?vsxf1_8) rfl rfl (by kernel_rfl) (by kernel_rfl) (by kernel_rfl) (fun _ _ _ h => h) (by rfl) ?ysxf1_8 (by assumption) ?rsxf1_8
                          case ysxf1_8 => (intro w hSw; (try dsimp only at hSw); go_simp; (try with_reducible rfl))
                          simp only [Act.put, List.setIfInBounds_toArray, List.set_cons_zero, List.set_cons_succ]
                          refine pass_over 8 62 rfl rfl (by kernel_rfl) (by kernel_rfl) (by kernel_rfl) (fun _ _ _ h => h) (by rfl) (by assumption) ?rsxf1_9
                          simp only [Act.put, List.setIfInBounds_toArray, List.set_cons_zero, List.set_cons_succ]
                          refine pass_over 9 63 rfl rfl (by kernel_rfl) (by kernel_rfl) (by kernel_rfl) (fun _ _ _ h => h) (by rfl) (by assumption) ?rsxf1_10
                          simp only [Act.put, List.setIfInBounds_toArray, List.set_cons_zero, List.set_cons_succ]
                          refine pass_over 10 64 rfl rfl (by kernel_rfl) (by kernel_rfl) (by kernel_rfl) (fun _ _ _ h => h) (by rfl) (by assumption) ?rsxf1_11
                          simp only [Act.put, List.setIfInBounds_toArray, List.set_cons_zero, List.set_cons_succ]
                          refine pass_over 11 65 rfl rfl (by kernel_rfl) (by kernel_rfl) (by kernel_rfl) (fun _ _ _ h => h) (by rfl) (by assumption) ?rsxf1_12
                          simp only [Act.put, List.setIfInBounds_toArray, List.set_cons_zero, List.set_cons_succ]
                          refine pass_over 12 66 rfl rfl (by kernel_rfl) (by kernel_rfl) (by kernel_rfl) (fun _ _ _ h => h) (by rfl) (by assumption) ?rsxf1_13
                          simp only [Act.put, List.setIfInBounds_toArray, List.set_cons_zero, List.set_cons_succ]
                          refine pass_over 13 67 rfl rfl (by kernel_rfl) (by kernel_rfl) (by kernel_rfl) (fun _ _ _ h => h) (by rfl) (by assumption) ?rsxf1_14
                          simp only [Act.put, List.setIfInBounds_toArray, List.set_cons_zero, List.set_cons_succ]
                          refine pass_over 14 68 rfl rfl (by kernel_rfl) (by kernel_rfl) (by kernel_rfl) (fun _ _ _ h => h) (by rfl) (by assumption) ?rsxf1_15
                          simp only [Act.put, List.setIfInBounds_toArray, List.set_cons_zero, List.set_cons_succ]
                          refine pass_over 15 69 rfl rfl (by kernel_rfl) (by kernel_rfl) (by kernel_rfl) (fun _ _ _ h => h) (by rfl) (by assumption) ?rsxf1_16
                          simp only [Act.put, List.setIfInBounds_toArray, List.set_cons_zero, List.set_cons_succ]
                          refine pass_over 16 70 rfl rfl (by kernel_rfl) (by kernel_rfl) (by kernel_rfl) (fun _ _ _ h => h) (by rfl) (by assumption) ?rsxf1_17
                          simp only [Act.put, List.setIfInBounds_toArray, List.set_cons_zero, List.set_cons_succ]
                          refine pass_over 17 71 rfl rfl (by kernel_rfl) (by kernel_rfl) (by kernel_rfl) (fun _ _ _ h => h) (by rfl) (by assumption) ?rsxf1_18
                          simp only [Act.put, List.setIfInBounds_toArray, List.set_cons_zero, List.set_cons_succ]
                          refine take_first 18 72 (v := ?vsxf1_19) rfl rfl (by kernel_rfl) (by kernel_rfl) (by kernel_rfl) (fun _ _ _ h => h) (by rfl) ?ysxf1_19 (by assumption) ?rsxf1_19
                          case ysxf1_19 => (intro w hSw; (try dsimp only at hSw); go_simp; (try with_reducible rfl))
                          simp only [Act.put, List.setIfInBounds_toArray, List.set_cons_zero, List.set_cons_succ]
                          refine take_first 19 73 (v := ?vsxf1_20) rfl rfl (by kernel_rfl) (by kernel_rfl) (by kernel_rfl) (fun _ _ _ h => h) (by rfl) ?ysxf1_20 (by assumption) ?rsxf1_20
                          case ysxf1_20 => (intro w hSw; (try dsimp only at hSw); go_simp; (try with_reducible rfl))
                          simp only [Act.put, List.setIfInBounds_toArray, List.set_cons_zero, List.set_cons_succ]
                          refine take_first 20 74 (v := ?vsxf1_21) rfl rfl (by kernel_rfl) (by kernel_rfl) (by kernel_rfl) (fun _ _ _ h => h) (by rfl) ?ysxf1_21 (by assumption) ?rsxf1_21
                          case ysxf1_21 => (intro w hSw; (try dsimp only at hSw); go_simp; (try with_reducible rfl))
                          simp only [Act.put, List.setIfInBounds_toArray, List.set_cons_zero, List.set_cons_succ]
                          refine take_first 21 75 (v := ?vsxf1_22) rfl rfl (by kernel_rfl) (by kernel_rfl) (by kernel_rfl) (fun _ _ _ h => h) (by rfl) ?ysxf1_22 (by assumption) ?rsxf1_22
                          case ysxf1_22 => (intro w hSw; (try dsimp only at hSw); go_simp; (try with_reducible rfl))
                          simp only [Act.put, List.setIfInBounds_toArray, List.set_cons_zero, List.set_cons_succ]
                          refine take_first 22 76 (v := ?vsxf1_23) rfl rfl (by kernel_rfl) (by kernel_rfl) (by kernel_rfl) (fun _ _ _ h => h) (by rfl) ?ysxf1_23 (by assumption) ?rsxf1_23
                          case ysxf1_23 => (intro w hSw; (try dsimp only at hSw); go_simp; (try with_reducible rfl))
                          simp only [Act.put, List.setIfInBounds_toArray, List.set_cons_zero, List.set_cons_succ]
                          refine wpAnyH_ready (rs := [23]) (by kernel_rfl) (by simp) ?_
                          refine AllReadyH.cons (o := _) rfl (fun Ksxf1_24 hKsxf1_24 => ?csxf1_24) ?msxf1_24
                          case msxf1_24 => exact AllReadyH.nil
                          go_simp
                          refine (l6Places_any _ _ yc (ints_row.1 (HCr.out _ HWb.out).1)).mono ?_; rintro e wc ⟨rfl, hbc⟩; rw [hC]; have HWe := Lib.hid (HWb.out.trans (hbc.mono HWb.out.size)); replace k0 := HAl.out _ HWe.out; clear hbc
                          go_wp2_with fail
                          refine hKsxf1_24.out _ _ ?ksxf1_24 (fun hHeldsxf1_24 => ?dsxf1_24)
                          case ksxf1_24 => (first | (dsimp only; (first | with_reducible exact k0 | exact k0)) | (first | with_reducible exact k0 | exact k0))
                          clear hKsxf1_24 Ksxf1_24
                          refine take_first 24 78 (v := ?vsxf1_25) rfl rfl (by kernel_rfl) (by kernel_rfl) (by kernel_rfl) (fun _ _ _ h => h) (by rfl) ?ysxf1_25 (by assumption) ?rsxf1_25
                          case ysxf1_25 => (intro w hSw; (try dsimp only at hSw); go_simp; (try with_reducible rfl))
                          simp only [Act.put, List.setIfInBounds_toArray, List.set_cons_zero, List.set_cons_succ]
                          refine take_first 25 79 (v := ?vsxf1_26) rfl rfl (by kernel_rfl) (by kernel_rfl) (by kernel_rfl) (fun _ _ _ h => h) (by rfl) ?ysxf1_26 (by assumption) ?rsxf1_26
                          case ysxf1_26 => (intro w hSw; (try dsimp only at hSw); go_simp; (try with_reducible rfl))
                          simp only [Act.put, List.setIfInBounds_toArray, List.set_cons_zero, List.set_cons_succ]
                          refine take_first 26 80 (v := ?vsxf1_27) rfl rfl (by kernel_rfl) (by kernel_rfl) (by kernel_rfl) (fun _ _ _ h => h) (by rfl) ?ysxf1_27 (by assumption) ?rsxf1_27
                          case ysxf1_27 => (intro w hSw; (try dsimp only at hSw); go_simp; (try with_reducible rfl))
                          simp only [Act.put, List.setIfInBounds_toArray, List.set_cons_zero, List.set_cons_succ]
                          refine take_first 27 81 (v := ?vsxf1_28) rfl rfl (by kernel_rfl) (by kernel_rfl) (by kernel_rfl) (fun _ _ _ h => h) (by rfl) ?ysxf1_28 (by assumption) ?rsxf1_28
                          case ysxf1_28 => (intro w hSw; (try dsimp only at hSw); go_simp; (try with_reducible rfl))
                          simp only [Act.put, List.setIfInBounds_toArray, List.set_cons_zero, List.set_cons_succ]
                          refine take_first 28 82 (v := ?vsxf1_29) rfl rfl (by kernel_rfl) (by kernel_rfl) (by kernel_rfl) (fun _ _ _ h => h) (by rfl) ?ysxf1_29 (by assumption) ?rsxf1_29
                          case ysxf1_29 => (intro w hSw; (try dsimp only at hSw); go_simp; (try with_reducible rfl))
                          simp only [Act.put, List.setIfInBounds_toArray, List.set_cons_zero, List.set_cons_succ]
                          refine wpAnyH_ready (rs := [29]) (by kernel_rfl) (by simp) ?_
                          refine AllReadyH.cons (o := _) rfl (fun Ksxf1_30 hKsxf1_30 => ?csxf1_30) ?msxf1_30
                          case msxf1_30 => exact AllReadyH.nil
                          go_simp
                          refine (l6Places_any _ _ yk (ints_row.1 (HCr.out _ HWe.out).2)).mono ?_; rintro e wd ⟨rfl, hbd⟩; rw [hD]; have HWf := Lib.hid (HWe.out.trans (hbd.mono HWe.out.size)); replace k0 := HAl.out _ HWf.out; clear hbd
                          go_wp2_with fail
                          refine hKsxf1_30.out _ _ ?ksxf1_30 (fun hHeldsxf1_30 => ?dsxf1_30)
                          case ksxf1_30 => (first | (dsimp only; (first | with_reducible exact k0 | exact k0)) | (first | with_reducible exact k0 | exact k0))
                          clear hKsxf1_30 Ksxf1_30
                          refine take_first 30 84 (v := ?vsxf1_31) rfl rfl (by kernel_rfl) (by kernel_rfl) (by kernel_rfl) (fun _ _ _ h => h) (by rfl) ?ysxf1_31 (by assumption) ?rsxf1_31
                          case ysxf1_31 => (intro w hSw; (try dsimp only at hSw); go_simp; (try with_reducible rfl))
                          simp only [Act.put, List.setIfInBounds_toArray, List.set_cons_zero, List.set_cons_succ]
                          refine take_first 31 85 (v := ?vsxf1_32) rfl rfl (by kernel_rfl) (by kernel_rfl) (by kernel_rfl) (fun _ _ _ h => h) (by rfl) ?ysxf1_32 (by assumption) ?rsxf1_32
                          case ysxf1_32 => (intro w hSw; (try dsimp only at hSw); go_simp; (try with_reducible rfl))
                          simp only [Act.put, List.setIfInBounds_toArray, List.set_cons_zero, List.set_cons_succ]
                          refine take_first 32 86 (v := ?vsxf1_33) rfl rfl (by kernel_rfl) (by kernel_rfl) (by kernel_rfl) (fun _ _ _ h => h) (by rfl) ?ysxf1_33 (by assumption) ?rsxf1_33
                          case ysxf1_33 => (intro w hSw; (try dsimp only at hSw); go_simp; (try with_reducible rfl))
                          simp only [Act.put, List.setIfInBounds_toArray, List.set_cons_zero, List.set_cons_succ]
                          refine take_first 33 87 (v := ?vsxf1_34) rfl rfl (by kernel_rfl) (by kernel_rfl) (by kernel_rfl) (fun _ _ _ h => h) (by rfl) ?ysxf1_34 (by assumption) ?rsxf1_34
                          case ysxf1_34 => (intro w hSw; (try dsimp only at hSw); go_simp; (try with_reducible rfl))
                          simp only [Act.put, List.setIfInBounds_toArray, List.set_cons_zero, List.set_cons_succ]
                          refine take_first 34 88 (v := ?vsxf1_35) rfl rfl (by kernel_rfl) (by kernel_rfl) (by kernel_rfl) (fun _ _ _ h => h) (by rfl) ?ysxf1_35 (by assumption) ?rsxf1_35
                          case ysxf1_35 => (intro w hSw; (try dsimp only at hSw); go_simp; (try with_reducible rfl))
                          simp only [Act.put, List.setIfInBounds_toArray, List.set_cons_zero, List.set_cons_succ]
                          refine take_first 35 89 (v := ?vsxf1_36) rfl rfl (by kernel_rfl) (by kernel_rfl) (by kernel_rfl) (fun _ _ _ h => h) (by rfl) ?ysxf1_36 (by assumption) ?rsxf1_36
                          case ysxf1_36 => (intro w hSw; (try dsimp only at hSw); go_simp; (try with_reducible rfl))
                          simp only [Act.put, List.setIfInBounds_toArray, List.set_cons_zero, List.set_cons_succ]
                          refine take_first 36 90 (v := ?vsxf1_37) rfl rfl (by kernel_rfl) (by kernel_rfl) (by kernel_rfl) (fun _ _ _ h => h) (by rfl) ?ysxf1_37 (by assumption) ?rsxf1_37
                          case ysxf1_37 => (intro w hSw; (try dsimp only at hSw); go_simp; (try with_reducible rfl))
                          simp only [Act.put, List.setIfInBounds_toArray, List.set_cons_zero, List.set_cons_succ]
                          refine take_first 37 91 (v := ?vsxf1_38) rfl rfl (by kernel_rfl) (by kernel_rfl) (by kernel_rfl) (fun _ _ _ h => h) (by rfl) ?ysxf1_38 (by assumption) ?rsxf1_38
                          case ysxf1_38 => (intro w hSw; (try dsimp only at hSw); go_simp; (try with_reducible rfl))
                          simp only [Act.put, List.setIfInBounds_toArray, List.set_cons_zero, List.set_cons_succ]
                          refine take_first 38 92 (v := ?vsxf1_39) rfl rfl (by kernel_rfl) (by kernel_rfl) (by kernel_rfl) (fun _ _ _ h => h) (by rfl) ?ysxf1_39 (by assumption) ?rsxf1_39
                          case ysxf1_39 => (intro w hSw; (try dsimp only at hSw); go_simp; (try with_reducible rfl))
                          simp only [Act.put, List.setIfInBounds_toArray, List.set_cons_zero, List.set_cons_succ]
                          refine take_first 39 93 (v := ?vsxf1_40) rfl rfl (by kernel_rfl) (by kernel_rfl) (by kernel_rfl) (fun _ _ _ h => h) (by rfl) ?ysxf1_40 (by assumption) ?rsxf1_40
                          case ysxf1_40 => (intro w hSw; (try dsimp only at hSw); go_simp; (try with_reducible rfl))
                          simp only [Act.put, List.setIfInBounds_toArray, List.set_cons_zero, List.set_cons_succ]
                          refine wpAnyH_ready (rs := [40]) (by kernel_rfl) (by simp) ?_
                          refine AllReadyH.cons (o := _) rfl (fun Ksxf1_41 hKsxf1_41 => ?csxf1_41) ?msxf1_41
                          case msxf1_41 => exact AllReadyH.nil
                          go_simp
                          refine (l2Of_any _ _ _ x.disk.notes yt (HNr.out _ (HGo.out _ HWf.out))).mono ?_; rintro e we ⟨rfl, rfl⟩
                          go_wp2_with fail
                          refine hKsxf1_41.out _ _ ?ksxf1_41 (fun hHeldsxf1_41 => ?dsxf1_41)
                          case ksxf1_41 => (first | (dsimp only; (first | with_reducible exact k0 | exact k0)) | (first | with_reducible exact k0 | exact k0))
                          clear hKsxf1_41 Ksxf1_41
                          refine take_first 41 95 (v := ?vsxf1_42) rfl rfl (by kernel_rfl) (by kernel_rfl) (by kernel_rfl) (fun _ _ _ h => h) (by rfl) ?ysxf1_42 (by assumption) ?rsxf1_42
                          case ysxf1_42 => (intro w hSw; (try dsimp only at hSw); go_simp; (try with_reducible rfl))
                          simp only [Act.put, List.setIfInBounds_toArray, List.set_cons_zero, List.set_cons_succ]
                          refine take_first 42 96 (v := ?vsxf1_43) rfl rfl (by kernel_rfl) (by kernel_rfl) (by kernel_rfl) (fun _ _ _ h => h) (by rfl) ?ysxf1_43 (by assumption) ?rsxf1_43
                          case ysxf1_43 => (intro w hSw; (try dsimp only at hSw); go_simp; (try with_reducible rfl))
                          simp only [Act.put, List.setIfInBounds_toArray, List.set_cons_zero, List.set_cons_succ]
                          refine take_first 43 97 (v := ?vsxf1_44) rfl rfl (by kernel_rfl) (by kernel_rfl) (by kernel_rfl) (fun _ _ _ h => h) (by rfl) ?ysxf1_44 (by assumption) ?rsxf1_44
                          case ysxf1_44 => (intro w hSw; (try dsimp only at hSw); go_simp; (try with_reducible rfl))
                          simp only [Act.put, List.setIfInBounds_toArray, List.set_cons_zero, List.set_cons_succ]
                          refine wpAnyH_done (by kernel_rfl) ?esxf1 _
                          have HBz := Lib.hid (HGo.out _ HWf.out)
                          obtain ⟨-, -, -, -, -, -, -, -, -, -, q8, -, -⟩ := HAl.out _ HWf.out
                          clear k0
                          go_wp2
                          go_roundw
                          case rel => exact ⟨0 + 1, by omega, by go_num, HSt.out, HBz.out⟩
                          case measure => simp [intOf]; omega
                      | false =>
                        cases yy with
                        | true =>
                          have HNo := Lib.hid (show froB x = false from fro_false (.inr (.inr (.inr (by rw [HI.out, HW.out, show actB ⟨yt, yo, true, yc, yk⟩ (lastK x.disk.notes yt == 2) = false by (rw [HV.out, hl]; simp)]; rfl)))))
                          refine wp_region_held_drew (S := (fun w' => w'.cell? ⟨w.heap.size, 2, none⟩ = some (.slice (some ⟨bw, ow, none⟩) x.way.length cw) ∧ w'.cell? ⟨w.heap.size, 0, none⟩ = some (.slice An x.disk.notes.length cn) ∧ w'.cell? ⟨wr.heap.size, 0, none⟩ = some (.int .i64 yt) ∧ w'.cell? ⟨wr.heap.size, 1, none⟩ = some (.int .i64 yo.kind) ∧ w'.cell? ⟨wr.heap.size, 2, none⟩ = some (.int .i64 yo.who) ∧ w'.cell? ⟨wr.heap.size, 3, none⟩ = some (.int .i64 yo.inn) ∧ w'.cell? ⟨wr.heap.size, 4, none⟩ = some (.int .i64 yo.code) ∧ w'.cell? ⟨wr.heap.size, 5, none⟩ = some (.int .i64 yo.sec) ∧ w'.cell? ⟨wr.heap.size, 6, none⟩ = some (.int .i64 yo.fam) ∧ w'.cell? ⟨wr.heap.size, 7, none⟩ = some (.int .i64 yo.gen) ∧ w'.cell? ⟨wr.heap.size, 8, none⟩ = some (.bool true) ∧ w'.cell? ⟨wr.heap.size, 9, none⟩ = some (.slice Ac yc.length cc) ∧ w'.cell? ⟨wr.heap.size, 10, none⟩ = some (.slice Ak yk.length ck))) (by kernel_rfl) ?hSsxe1 (fun hHeldsxe1 => ?stsxe1)
                          case hSsxe1 => (first | (dsimp only; (first | with_reducible exact k0 | exact k0)) | (first | with_reducible exact k0 | exact k0))
                          refine take_first 0 54 (v := ?vsxe1_1) rfl rfl (by kernel_rfl) (by kernel_rfl) (by kernel_rfl) (fun _ _ _ h => h) (by rfl) ?ysxe1_1 (by assumption) ?rsxe1_1
                          case ysxe1_1 => (intro w hSw; (try dsimp only at hSw); go_simp; (try with_reducible rfl))
                          simp only [Act.put, List.setIfInBounds_toArray, List.set_cons_zero, List.set_cons_succ]
                          refine take_first 1 55 (v := ?vsxe1_2) rfl rfl (by kernel_rfl) (by kernel_rfl) (by kernel_rfl) (fun _ _ _ h => h) (by rfl) ?ysxe1_2 (by assumption) ?rsxe1_2
                          case ysxe1_2 => (intro w hSw; (try dsimp only at hSw); go_simp; (try with_reducible rfl))
                          simp only [Act.put, List.setIfInBounds_toArray, List.set_cons_zero, List.set_cons_succ]
                          refine wpAnyH_ready (rs := [2]) (by kernel_rfl) (by simp) ?_
                          refine AllReadyH.cons (o := _) rfl (fun Ksxe1_3 hKsxe1_3 => ?csxe1_3) ?msxe1_3
                          case msxe1_3 => exact AllReadyH.nil
                          go_simp
                          refine (l1In_any _ _ _ _).mono ?_; rintro e wz ⟨rfl, rfl⟩; rw [hA]
                          go_wp2_with fail
                          refine hKsxe1_3.out _ _ ?ksxe1_3 (fun hHeldsxe1_3 => ?dsxe1_3)
                          case ksxe1_3 => (first | (dsimp only; (first | with_reducible exact k0 | exact k0)) | (first | with_reducible exact k0 | exact k0))
                          clear hKsxe1_3 Ksxe1_3
                          refine take_first 3 57 (v := ?vsxe1_4) rfl rfl (by kernel_rfl) (by kernel_rfl) (by kernel_rfl) (fun _ _ _ h => h) (by rfl) ?ysxe1_4 (by assumption) ?rsxe1_4
                          case ysxe1_4 => (intro w hSw; (try dsimp only at hSw); go_simp; (try with_reducible rfl))
                          simp only [Act.put, List.setIfInBounds_toArray, List.set_cons_zero, List.set_cons_succ]
                          refine take_first 4 58 (v := ?vsxe1_5) rfl rfl (by kernel_rfl) (by kernel_rfl) (by kernel_rfl) (fun _ _ _ h => h) (by rfl) ?ysxe1_5 (by assumption) ?rsxe1_5
                          case ysxe1_5 => (intro w hSw; (try dsimp only at hSw); go_simp; (try with_reducible rfl))
                          simp only [Act.put, List.setIfInBounds_toArray, List.set_cons_zero, List.set_cons_succ]
                          refine take_first 5 59 (v := ?vsxe1_6) rfl rfl (by kernel_rfl) (by kernel_rfl) (by kernel_rfl) (fun _ _ _ h => h) (by rfl) ?ysxe1_6 (by assumption) ?rsxe1_6
                          case ysxe1_6 => (intro w hSw; (try dsimp only at hSw); go_simp; (try with_reducible rfl))
                          simp only [Act.put, List.setIfInBounds_toArray, List.set_cons_zero, List.set_cons_succ]
                          refine take_first 6 60 (v := ?vsxe1_7) rfl rfl (by kernel_rfl) (by kernel_rfl) (by kernel_rfl) (fun _ _ _ h => h) (by rfl) ?ysxe1_7 (by assumption) ?rsxe1_7
                          case ysxe1_7 => (intro w hSw; (try dsimp only at hSw); go_simp; (try with_reducible rfl))
                          simp only [Act.put, List.setIfInBounds_toArray, List.set_cons_zero, List.set_cons_succ]
                          refine take_first 7 61 (v := ?vsxe1_8) rfl rfl (by kernel_rfl) (by kernel_rfl) (by kernel_rfl) (fun _ _ _ h => h) (by rfl) ?ysxe1_8 (by assumption) ?rsxe1_8
                          case ysxe1_8 => (intro w hSw; (try dsimp only at hSw); go_simp; (try with_reducible rfl))
                          simp only [Act.put, List.setIfInBounds_toArray, List.set_cons_zero, List.set_cons_succ]
                          refine pass_over 8 62 rfl rfl (by kernel_rfl) (by kernel_rfl) (by kernel_rfl) (fun _ _ _ h => h) (by rfl) (by assumption) ?rsxe1_9
                          simp only [Act.put, List.setIfInBounds_toArray, List.set_cons_zero, List.set_cons_succ]
                          refine pass_over 9 63 rfl rfl (by kernel_rfl) (by kernel_rfl) (by kernel_rfl) (fun _ _ _ h => h) (by rfl) (by assumption) ?rsxe1_10
                          simp only [Act.put, List.setIfInBounds_toArray, List.set_cons_zero, List.set_cons_succ]
                          refine pass_over 10 64 rfl rfl (by kernel_rfl) (by kernel_rfl) (by kernel_rfl) (fun _ _ _ h => h) (by rfl) (by assumption) ?rsxe1_11
                          simp only [Act.put, List.setIfInBounds_toArray, List.set_cons_zero, List.set_cons_succ]
                          refine pass_over 11 65 rfl rfl (by kernel_rfl) (by kernel_rfl) (by kernel_rfl) (fun _ _ _ h => h) (by rfl) (by assumption) ?rsxe1_12
                          simp only [Act.put, List.setIfInBounds_toArray, List.set_cons_zero, List.set_cons_succ]
                          refine pass_over 12 66 rfl rfl (by kernel_rfl) (by kernel_rfl) (by kernel_rfl) (fun _ _ _ h => h) (by rfl) (by assumption) ?rsxe1_13
                          simp only [Act.put, List.setIfInBounds_toArray, List.set_cons_zero, List.set_cons_succ]
                          refine pass_over 13 67 rfl rfl (by kernel_rfl) (by kernel_rfl) (by kernel_rfl) (fun _ _ _ h => h) (by rfl) (by assumption) ?rsxe1_14
                          simp only [Act.put, List.setIfInBounds_toArray, List.set_cons_zero, List.set_cons_succ]
                          refine pass_over 14 68 rfl rfl (by kernel_rfl) (by kernel_rfl) (by kernel_rfl) (fun _ _ _ h => h) (by rfl) (by assumption) ?rsxe1_15
                          simp only [Act.put, List.setIfInBounds_toArray, List.set_cons_zero, List.set_cons_succ]
                          refine pass_over 15 69 rfl rfl (by kernel_rfl) (by kernel_rfl) (by kernel_rfl) (fun _ _ _ h => h) (by rfl) (by assumption) ?rsxe1_16
                          simp only [Act.put, List.setIfInBounds_toArray, List.set_cons_zero, List.set_cons_succ]
                          refine pass_over 16 70 rfl rfl (by kernel_rfl) (by kernel_rfl) (by kernel_rfl) (fun _ _ _ h => h) (by rfl) (by assumption) ?rsxe1_17
                          simp only [Act.put, List.setIfInBounds_toArray, List.set_cons_zero, List.set_cons_succ]
                          refine pass_over 17 71 rfl rfl (by kernel_rfl) (by kernel_rfl) (by kernel_rfl) (fun _ _ _ h => h) (by rfl) (by assumption) ?rsxe1_18
                          simp only [Act.put, List.setIfInBounds_toArray, List.set_cons_zero, List.set_cons_succ]
                          refine take_first 18 72 (v := ?vsxe1_19) rfl rfl (by kernel_rfl) (by kernel_rfl) (by kernel_rfl) (fun _ _ _ h => h) (by rfl) ?ysxe1_19 (by assumption) ?rsxe1_19
                          case ysxe1_19 => (intro w hSw; (try dsimp only at hSw); go_simp; (try with_reducible rfl))
                          simp only [Act.put, List.setIfInBounds_toArray, List.set_cons_zero, List.set_cons_succ]
                          refine take_first 19 73 (v := ?vsxe1_20) rfl rfl (by kernel_rfl) (by kernel_rfl) (by kernel_rfl) (fun _ _ _ h => h) (by rfl) ?ysxe1_20 (by assumption) ?rsxe1_20
                          case ysxe1_20 => (intro w hSw; (try dsimp only at hSw); go_simp; (try with_reducible rfl))
                          simp only [Act.put, List.setIfInBounds_toArray, List.set_cons_zero, List.set_cons_succ]
                          refine take_first 20 74 (v := ?vsxe1_21) rfl rfl (by kernel_rfl) (by kernel_rfl) (by kernel_rfl) (fun _ _ _ h => h) (by rfl) ?ysxe1_21 (by assumption) ?rsxe1_21
                          case ysxe1_21 => (intro w hSw; (try dsimp only at hSw); go_simp; (try with_reducible rfl))
                          simp only [Act.put, List.setIfInBounds_toArray, List.set_cons_zero, List.set_cons_succ]
                          refine take_first 21 75 (v := ?vsxe1_22) rfl rfl (by kernel_rfl) (by kernel_rfl) (by kernel_rfl) (fun _ _ _ h => h) (by rfl) ?ysxe1_22 (by assumption) ?rsxe1_22
                          case ysxe1_22 => (intro w hSw; (try dsimp only at hSw); go_simp; (try with_reducible rfl))
                          simp only [Act.put, List.setIfInBounds_toArray, List.set_cons_zero, List.set_cons_succ]
                          refine take_first 22 76 (v := ?vsxe1_23) rfl rfl (by kernel_rfl) (by kernel_rfl) (by kernel_rfl) (fun _ _ _ h => h) (by rfl) ?ysxe1_23 (by assumption) ?rsxe1_23
                          case ysxe1_23 => (intro w hSw; (try dsimp only at hSw); go_simp; (try with_reducible rfl))
                          simp only [Act.put, List.setIfInBounds_toArray, List.set_cons_zero, List.set_cons_succ]
                          refine wpAnyH_ready (rs := [23]) (by kernel_rfl) (by simp) ?_
                          refine AllReadyH.cons (o := _) rfl (fun Ksxe1_24 hKsxe1_24 => ?csxe1_24) ?msxe1_24
                          case msxe1_24 => exact AllReadyH.nil
                          go_simp
                          refine (l6Places_any _ _ yc (ints_row.1 (HCr.out _ HWb.out).1)).mono ?_; rintro e wc ⟨rfl, hbc⟩; rw [hC]; have HWe := Lib.hid (HWb.out.trans (hbc.mono HWb.out.size)); replace k0 := HAl.out _ HWe.out; clear hbc
                          go_wp2_with fail
                          refine hKsxe1_24.out _ _ ?ksxe1_24 (fun hHeldsxe1_24 => ?dsxe1_24)
                          case ksxe1_24 => (first | (dsimp only; (first | with_reducible exact k0 | exact k0)) | (first | with_reducible exact k0 | exact k0))
                          clear hKsxe1_24 Ksxe1_24
                          refine take_first 24 78 (v := ?vsxe1_25) rfl rfl (by kernel_rfl) (by kernel_rfl) (by kernel_rfl) (fun _ _ _ h => h) (by rfl) ?ysxe1_25 (by assumption) ?rsxe1_25
                          case ysxe1_25 => (intro w hSw; (try dsimp only at hSw); go_simp; (try with_reducible rfl))
                          simp only [Act.put, List.setIfInBounds_toArray, List.set_cons_zero, List.set_cons_succ]
                          refine take_first 25 79 (v := ?vsxe1_26) rfl rfl (by kernel_rfl) (by kernel_rfl) (by kernel_rfl) (fun _ _ _ h => h) (by rfl) ?ysxe1_26 (by assumption) ?rsxe1_26
                          case ysxe1_26 => (intro w hSw; (try dsimp only at hSw); go_simp; (try with_reducible rfl))
                          simp only [Act.put, List.setIfInBounds_toArray, List.set_cons_zero, List.set_cons_succ]
                          refine take_first 26 80 (v := ?vsxe1_27) rfl rfl (by kernel_rfl) (by kernel_rfl) (by kernel_rfl) (fun _ _ _ h => h) (by rfl) ?ysxe1_27 (by assumption) ?rsxe1_27
                          case ysxe1_27 => (intro w hSw; (try dsimp only at hSw); go_simp; (try with_reducible rfl))
                          simp only [Act.put, List.setIfInBounds_toArray, List.set_cons_zero, List.set_cons_succ]
                          refine take_first 27 81 (v := ?vsxe1_28) rfl rfl (by kernel_rfl) (by kernel_rfl) (by kernel_rfl) (fun _ _ _ h => h) (by rfl) ?ysxe1_28 (by assumption) ?rsxe1_28
                          case ysxe1_28 => (intro w hSw; (try dsimp only at hSw); go_simp; (try with_reducible rfl))
                          simp only [Act.put, List.setIfInBounds_toArray, List.set_cons_zero, List.set_cons_succ]
                          refine take_first 28 82 (v := ?vsxe1_29) rfl rfl (by kernel_rfl) (by kernel_rfl) (by kernel_rfl) (fun _ _ _ h => h) (by rfl) ?ysxe1_29 (by assumption) ?rsxe1_29
                          case ysxe1_29 => (intro w hSw; (try dsimp only at hSw); go_simp; (try with_reducible rfl))
                          simp only [Act.put, List.setIfInBounds_toArray, List.set_cons_zero, List.set_cons_succ]
                          refine wpAnyH_ready (rs := [29]) (by kernel_rfl) (by simp) ?_
                          refine AllReadyH.cons (o := _) rfl (fun Ksxe1_30 hKsxe1_30 => ?csxe1_30) ?msxe1_30
                          case msxe1_30 => exact AllReadyH.nil
                          go_simp
                          refine (l6Places_any _ _ yk (ints_row.1 (HCr.out _ HWe.out).2)).mono ?_; rintro e wd ⟨rfl, hbd⟩; rw [hD]; have HWf := Lib.hid (HWe.out.trans (hbd.mono HWe.out.size)); replace k0 := HAl.out _ HWf.out; clear hbd
                          go_wp2_with fail
                          refine hKsxe1_30.out _ _ ?ksxe1_30 (fun hHeldsxe1_30 => ?dsxe1_30)
                          case ksxe1_30 => (first | (dsimp only; (first | with_reducible exact k0 | exact k0)) | (first | with_reducible exact k0 | exact k0))
                          clear hKsxe1_30 Ksxe1_30
                          refine take_first 30 84 (v := ?vsxe1_31) rfl rfl (by kernel_rfl) (by kernel_rfl) (by kernel_rfl) (fun _ _ _ h => h) (by rfl) ?ysxe1_31 (by assumption) ?rsxe1_31
                          case ysxe1_31 => (intro w hSw; (try dsimp only at hSw); go_simp; (try with_reducible rfl))
                          simp only [Act.put, List.setIfInBounds_toArray, List.set_cons_zero, List.set_cons_succ]
                          refine take_first 31 85 (v := ?vsxe1_32) rfl rfl (by kernel_rfl) (by kernel_rfl) (by kernel_rfl) (fun _ _ _ h => h) (by rfl) ?ysxe1_32 (by assumption) ?rsxe1_32
                          case ysxe1_32 => (intro w hSw; (try dsimp only at hSw); go_simp; (try with_reducible rfl))
                          simp only [Act.put, List.setIfInBounds_toArray, List.set_cons_zero, List.set_cons_succ]
                          refine take_first 32 86 (v := ?vsxe1_33) rfl rfl (by kernel_rfl) (by kernel_rfl) (by kernel_rfl) (fun _ _ _ h => h) (by rfl) ?ysxe1_33 (by assumption) ?rsxe1_33
                          case ysxe1_33 => (intro w hSw; (try dsimp only at hSw); go_simp; (try with_reducible rfl))
                          simp only [Act.put, List.setIfInBounds_toArray, List.set_cons_zero, List.set_cons_succ]
                          refine take_first 33 87 (v := ?vsxe1_34) rfl rfl (by kernel_rfl) (by kernel_rfl) (by kernel_rfl) (fun _ _ _ h => h) (by rfl) ?ysxe1_34 (by assumption) ?rsxe1_34
                          case ysxe1_34 => (intro w hSw; (try dsimp only at hSw); go_simp; (try with_reducible rfl))
                          simp only [Act.put, List.setIfInBounds_toArray, List.set_cons_zero, List.set_cons_succ]
                          refine take_first 34 88 (v := ?vsxe1_35) rfl rfl (by kernel_rfl) (by kernel_rfl) (by kernel_rfl) (fun _ _ _ h => h) (by rfl) ?ysxe1_35 (by assumption) ?rsxe1_35
                          case ysxe1_35 => (intro w hSw; (try dsimp only at hSw); go_simp; (try with_reducible rfl))
                          simp only [Act.put, List.setIfInBounds_toArray, List.set_cons_zero, List.set_cons_succ]
                          refine take_first 35 89 (v := ?vsxe1_36) rfl rfl (by kernel_rfl) (by kernel_rfl) (by kernel_rfl) (fun _ _ _ h => h) (by rfl) ?ysxe1_36 (by assumption) ?rsxe1_36
                          case ysxe1_36 => (intro w hSw; (try dsimp only at hSw); go_simp; (try with_reducible rfl))
                          simp only [Act.put, List.setIfInBounds_toArray, List.set_cons_zero, List.set_cons_succ]
                          refine take_first 36 90 (v := ?vsxe1_37) rfl rfl (by kernel_rfl) (by kernel_rfl) (by kernel_rfl) (fun _ _ _ h => h) (by rfl) ?ysxe1_37 (by assumption) ?rsxe1_37
                          case ysxe1_37 => (intro w hSw; (try dsimp only at hSw); go_simp; (try with_reducible rfl))
                          simp only [Act.put, List.setIfInBounds_toArray, List.set_cons_zero, List.set_cons_succ]
                          refine take_first 37 91 (v := ?vsxe1_38) rfl rfl (by kernel_rfl) (by kernel_rfl) (by kernel_rfl) (fun _ _ _ h => h) (by rfl) ?ysxe1_38 (by assumption) ?rsxe1_38
                          case ysxe1_38 => (intro w hSw; (try dsimp only at hSw); go_simp; (try with_reducible rfl))
                          simp only [Act.put, List.setIfInBounds_toArray, List.set_cons_zero, List.set_cons_succ]
                          refine take_first 38 92 (v := ?vsxe1_39) rfl rfl (by kernel_rfl) (by kernel_rfl) (by kernel_rfl) (fun _ _ _ h => h) (by rfl) ?ysxe1_39 (by assumption) ?rsxe1_39
                          case ysxe1_39 => (intro w hSw; (try dsimp only at hSw); go_simp; (try with_reducible rfl))
                          simp only [Act.put, List.setIfInBounds_toArray, List.set_cons_zero, List.set_cons_succ]
                          refine take_first 39 93 (v := ?vsxe1_40) rfl rfl (by kernel_rfl) (by kernel_rfl) (by kernel_rfl) (fun _ _ _ h => h) (by rfl) ?ysxe1_40 (by assumption) ?rsxe1_40
                          case ysxe1_40 => (intro w hSw; (try dsimp only at hSw); go_simp; (try with_reducible rfl))
                          simp only [Act.put, List.setIfInBounds_toArray, List.set_cons_zero, List.set_cons_succ]
                          refine wpAnyH_ready (rs := [40]) (by kernel_rfl) (by simp) ?_
                          refine AllReadyH.cons (o := _) rfl (fun Ksxe1_41 hKsxe1_41 => ?csxe1_41) ?msxe1_41
                          case msxe1_41 => exact AllReadyH.nil
                          go_simp
                          refine (l2Of_any _ _ _ x.disk.notes yt (HNr.out _ (HGo.out _ HWf.out))).mono ?_; rintro e we ⟨rfl, rfl⟩
                          go_wp2_with fail
                          refine hKsxe1_41.out _ _ ?ksxe1_41 (fun hHeldsxe1_41 => ?dsxe1_41)
                          case ksxe1_41 => (first | (dsimp only; (first | with_reducible exact k0 | exact k0)) | (first | with_reducible exact k0 | exact k0))
                          clear hKsxe1_41 Ksxe1_41
                          refine take_first 41 95 (v := ?vsxe1_42) rfl rfl (by kernel_rfl) (by kernel_rfl) (by kernel_rfl) (fun _ _ _ h => h) (by rfl) ?ysxe1_42 (by assumption) ?rsxe1_42
                          case ysxe1_42 => (intro w hSw; (try dsimp only at hSw); go_simp; (try with_reducible rfl))
                          simp only [Act.put, List.setIfInBounds_toArray, List.set_cons_zero, List.set_cons_succ]
                          refine take_first 42 96 (v := ?vsxe1_43) rfl rfl (by kernel_rfl) (by kernel_rfl) (by kernel_rfl) (fun _ _ _ h => h) (by rfl) ?ysxe1_43 (by assumption) ?rsxe1_43
                          case ysxe1_43 => (intro w hSw; (try dsimp only at hSw); go_simp; (try with_reducible rfl))
                          simp only [Act.put, List.setIfInBounds_toArray, List.set_cons_zero, List.set_cons_succ]
                          refine take_first 43 97 (v := ?vsxe1_44) rfl rfl (by kernel_rfl) (by kernel_rfl) (by kernel_rfl) (fun _ _ _ h => h) (by rfl) ?ysxe1_44 (by assumption) ?rsxe1_44
                          case ysxe1_44 => (intro w hSw; (try dsimp only at hSw); go_simp; (try with_reducible rfl))
                          simp only [Act.put, List.setIfInBounds_toArray, List.set_cons_zero, List.set_cons_succ]
                          refine wpAnyH_done (by kernel_rfl) ?esxe1 _
                          clear k0
                          have HBz := Lib.hid (HYr.out _ (HGo.out _ HWf.out)).2
                          go_wp2
                          go_ret
                          exact ⟨ret_bool HNo.out.symm, HBz.out⟩
                        | false =>
                          have HVf := Lib.hid (show actB ⟨yt, yo, false, yc, yk⟩ (lastK x.disk.notes yt == 2) = (opB yo && decide (yk.length = 0)) by rw [HV.out, hl, hA, hC, hD]; simp)
                          refine wp_region_held_drew (S := (fun w' => w'.cell? ⟨w.heap.size, 2, none⟩ = some (.slice (some ⟨bw, ow, none⟩) x.way.length cw) ∧ w'.cell? ⟨w.heap.size, 0, none⟩ = some (.slice An x.disk.notes.length cn) ∧ w'.cell? ⟨wr.heap.size, 0, none⟩ = some (.int .i64 yt) ∧ w'.cell? ⟨wr.heap.size, 1, none⟩ = some (.int .i64 yo.kind) ∧ w'.cell? ⟨wr.heap.size, 2, none⟩ = some (.int .i64 yo.who) ∧ w'.cell? ⟨wr.heap.size, 3, none⟩ = some (.int .i64 yo.inn) ∧ w'.cell? ⟨wr.heap.size, 4, none⟩ = some (.int .i64 yo.code) ∧ w'.cell? ⟨wr.heap.size, 5, none⟩ = some (.int .i64 yo.sec) ∧ w'.cell? ⟨wr.heap.size, 6, none⟩ = some (.int .i64 yo.fam) ∧ w'.cell? ⟨wr.heap.size, 7, none⟩ = some (.int .i64 yo.gen) ∧ w'.cell? ⟨wr.heap.size, 8, none⟩ = some (.bool false) ∧ w'.cell? ⟨wr.heap.size, 9, none⟩ = some (.slice Ac yc.length cc) ∧ w'.cell? ⟨wr.heap.size, 10, none⟩ = some (.slice Ak yk.length ck))) (by kernel_rfl) ?hSsxf0 (fun hHeldsxf0 => ?stsxf0)
                          case hSsxf0 => (first | (dsimp only; (first | with_reducible exact k0 | exact k0)) | (first | with_reducible exact k0 | exact k0))
                          refine take_first 0 54 (v := ?vsxf0_1) rfl rfl (by kernel_rfl) (by kernel_rfl) (by kernel_rfl) (fun _ _ _ h => h) (by rfl) ?ysxf0_1 (by assumption) ?rsxf0_1
                          case ysxf0_1 => (intro w hSw; (try dsimp only at hSw); go_simp; (try with_reducible rfl))
                          simp only [Act.put, List.setIfInBounds_toArray, List.set_cons_zero, List.set_cons_succ]
                          refine take_first 1 55 (v := ?vsxf0_2) rfl rfl (by kernel_rfl) (by kernel_rfl) (by kernel_rfl) (fun _ _ _ h => h) (by rfl) ?ysxf0_2 (by assumption) ?rsxf0_2
                          case ysxf0_2 => (intro w hSw; (try dsimp only at hSw); go_simp; (try with_reducible rfl))
                          simp only [Act.put, List.setIfInBounds_toArray, List.set_cons_zero, List.set_cons_succ]
                          refine wpAnyH_ready (rs := [2]) (by kernel_rfl) (by simp) ?_
                          refine AllReadyH.cons (o := _) rfl (fun Ksxf0_3 hKsxf0_3 => ?csxf0_3) ?msxf0_3
                          case msxf0_3 => exact AllReadyH.nil
                          go_simp
                          refine (l1In_any _ _ _ _).mono ?_; rintro e wz ⟨rfl, rfl⟩; rw [hA]
                          go_wp2_with fail
                          refine hKsxf0_3.out _ _ ?ksxf0_3 (fun hHeldsxf0_3 => ?dsxf0_3)
                          case ksxf0_3 => (first | (dsimp only; (first | with_reducible exact k0 | exact k0)) | (first | with_reducible exact k0 | exact k0))
                          clear hKsxf0_3 Ksxf0_3
                          refine take_first 3 57 (v := ?vsxf0_4) rfl rfl (by kernel_rfl) (by kernel_rfl) (by kernel_rfl) (fun _ _ _ h => h) (by rfl) ?ysxf0_4 (by assumption) ?rsxf0_4
                          case ysxf0_4 => (intro w hSw; (try dsimp only at hSw); go_simp; (try with_reducible rfl))
                          simp only [Act.put, List.setIfInBounds_toArray, List.set_cons_zero, List.set_cons_succ]
                          refine take_first 4 58 (v := ?vsxf0_5) rfl rfl (by kernel_rfl) (by kernel_rfl) (by kernel_rfl) (fun _ _ _ h => h) (by rfl) ?ysxf0_5 (by assumption) ?rsxf0_5
                          case ysxf0_5 => (intro w hSw; (try dsimp only at hSw); go_simp; (try with_reducible rfl))
                          simp only [Act.put, List.setIfInBounds_toArray, List.set_cons_zero, List.set_cons_succ]
                          refine take_first 5 59 (v := ?vsxf0_6) rfl rfl (by kernel_rfl) (by kernel_rfl) (by kernel_rfl) (fun _ _ _ h => h) (by rfl) ?ysxf0_6 (by assumption) ?rsxf0_6
                          case ysxf0_6 => (intro w hSw; (try dsimp only at hSw); go_simp; (try with_reducible rfl))
                          simp only [Act.put, List.setIfInBounds_toArray, List.set_cons_zero, List.set_cons_succ]
                          refine take_first 6 60 (v := ?vsxf0_7) rfl rfl (by kernel_rfl) (by kernel_rfl) (by kernel_rfl) (fun _ _ _ h => h) (by rfl) ?ysxf0_7 (by assumption) ?rsxf0_7
                          case ysxf0_7 => (intro w hSw; (try dsimp only at hSw); go_simp; (try with_reducible rfl))
                          simp only [Act.put, List.setIfInBounds_toArray, List.set_cons_zero, List.set_cons_succ]
                          refine take_first 7 61 (v := ?vsxf0_8) rfl rfl (by kernel_rfl) (by kernel_rfl) (by kernel_rfl) (fun _ _ _ h => h) (by rfl) ?ysxf0_8 (by assumption) ?rsxf0_8
                          case ysxf0_8 => (intro w hSw; (try dsimp only at hSw); go_simp; (try with_reducible rfl))
                          simp only [Act.put, List.setIfInBounds_toArray, List.set_cons_zero, List.set_cons_succ]
                          refine pass_over 8 62 rfl rfl (by kernel_rfl) (by kernel_rfl) (by kernel_rfl) (fun _ _ _ h => h) (by rfl) (by assumption) ?rsxf0_9
                          simp only [Act.put, List.setIfInBounds_toArray, List.set_cons_zero, List.set_cons_succ]
                          refine pass_over 9 63 rfl rfl (by kernel_rfl) (by kernel_rfl) (by kernel_rfl) (fun _ _ _ h => h) (by rfl) (by assumption) ?rsxf0_10
                          simp only [Act.put, List.setIfInBounds_toArray, List.set_cons_zero, List.set_cons_succ]
                          refine pass_over 10 64 rfl rfl (by kernel_rfl) (by kernel_rfl) (by kernel_rfl) (fun _ _ _ h => h) (by rfl) (by assumption) ?rsxf0_11
                          simp only [Act.put, List.setIfInBounds_toArray, List.set_cons_zero, List.set_cons_succ]
                          refine pass_over 11 65 rfl rfl (by kernel_rfl) (by kernel_rfl) (by kernel_rfl) (fun _ _ _ h => h) (by rfl) (by assumption) ?rsxf0_12
                          simp only [Act.put, List.setIfInBounds_toArray, List.set_cons_zero, List.set_cons_succ]
                          refine pass_over 12 66 rfl rfl (by kernel_rfl) (by kernel_rfl) (by kernel_rfl) (fun _ _ _ h => h) (by rfl) (by assumption) ?rsxf0_13
                          simp only [Act.put, List.setIfInBounds_toArray, List.set_cons_zero, List.set_cons_succ]
                          refine pass_over 13 67 rfl rfl (by kernel_rfl) (by kernel_rfl) (by kernel_rfl) (fun _ _ _ h => h) (by rfl) (by assumption) ?rsxf0_14
                          simp only [Act.put, List.setIfInBounds_toArray, List.set_cons_zero, List.set_cons_succ]
                          refine pass_over 14 68 rfl rfl (by kernel_rfl) (by kernel_rfl) (by kernel_rfl) (fun _ _ _ h => h) (by rfl) (by assumption) ?rsxf0_15
                          simp only [Act.put, List.setIfInBounds_toArray, List.set_cons_zero, List.set_cons_succ]
                          refine pass_over 15 69 rfl rfl (by kernel_rfl) (by kernel_rfl) (by kernel_rfl) (fun _ _ _ h => h) (by rfl) (by assumption) ?rsxf0_16
                          simp only [Act.put, List.setIfInBounds_toArray, List.set_cons_zero, List.set_cons_succ]
                          refine pass_over 16 70 rfl rfl (by kernel_rfl) (by kernel_rfl) (by kernel_rfl) (fun _ _ _ h => h) (by rfl) (by assumption) ?rsxf0_17
                          simp only [Act.put, List.setIfInBounds_toArray, List.set_cons_zero, List.set_cons_succ]
                          refine pass_over 17 71 rfl rfl (by kernel_rfl) (by kernel_rfl) (by kernel_rfl) (fun _ _ _ h => h) (by rfl) (by assumption) ?rsxf0_18
                          simp only [Act.put, List.setIfInBounds_toArray, List.set_cons_zero, List.set_cons_succ]
                          refine take_first 18 72 (v := ?vsxf0_19) rfl rfl (by kernel_rfl) (by kernel_rfl) (by kernel_rfl) (fun _ _ _ h => h) (by rfl) ?ysxf0_19 (by assumption) ?rsxf0_19
                          case ysxf0_19 => (intro w hSw; (try dsimp only at hSw); go_simp; (try with_reducible rfl))
                          simp only [Act.put, List.setIfInBounds_toArray, List.set_cons_zero, List.set_cons_succ]
                          refine take_first 19 73 (v := ?vsxf0_20) rfl rfl (by kernel_rfl) (by kernel_rfl) (by kernel_rfl) (fun _ _ _ h => h) (by rfl) ?ysxf0_20 (by assumption) ?rsxf0_20
                          case ysxf0_20 => (intro w hSw; (try dsimp only at hSw); go_simp; (try with_reducible rfl))
                          simp only [Act.put, List.setIfInBounds_toArray, List.set_cons_zero, List.set_cons_succ]
                          refine take_first 20 74 (v := ?vsxf0_21) rfl rfl (by kernel_rfl) (by kernel_rfl) (by kernel_rfl) (fun _ _ _ h => h) (by rfl) ?ysxf0_21 (by assumption) ?rsxf0_21
                          case ysxf0_21 => (intro w hSw; (try dsimp only at hSw); go_simp; (try with_reducible rfl))
                          simp only [Act.put, List.setIfInBounds_toArray, List.set_cons_zero, List.set_cons_succ]
                          refine take_first 21 75 (v := ?vsxf0_22) rfl rfl (by kernel_rfl) (by kernel_rfl) (by kernel_rfl) (fun _ _ _ h => h) (by rfl) ?ysxf0_22 (by assumption) ?rsxf0_22
                          case ysxf0_22 => (intro w hSw; (try dsimp only at hSw); go_simp; (try with_reducible rfl))
                          simp only [Act.put, List.setIfInBounds_toArray, List.set_cons_zero, List.set_cons_succ]
                          refine take_first 22 76 (v := ?vsxf0_23) rfl rfl (by kernel_rfl) (by kernel_rfl) (by kernel_rfl) (fun _ _ _ h => h) (by rfl) ?ysxf0_23 (by assumption) ?rsxf0_23
                          case ysxf0_23 => (intro w hSw; (try dsimp only at hSw); go_simp; (try with_reducible rfl))
                          simp only [Act.put, List.setIfInBounds_toArray, List.set_cons_zero, List.set_cons_succ]
                          refine wpAnyH_ready (rs := [23]) (by kernel_rfl) (by simp) ?_
                          refine AllReadyH.cons (o := _) rfl (fun Ksxf0_24 hKsxf0_24 => ?csxf0_24) ?msxf0_24
                          case msxf0_24 => exact AllReadyH.nil
                          go_simp
                          refine (l6Places_any _ _ yc (ints_row.1 (HCr.out _ HWb.out).1)).mono ?_; rintro e wc ⟨rfl, hbc⟩; rw [hC]; have HWe := Lib.hid (HWb.out.trans (hbc.mono HWb.out.size)); replace k0 := HAl.out _ HWe.out; clear hbc
                          go_wp2_with fail
                          refine hKsxf0_24.out _ _ ?ksxf0_24 (fun hHeldsxf0_24 => ?dsxf0_24)
                          case ksxf0_24 => (first | (dsimp only; (first | with_reducible exact k0 | exact k0)) | (first | with_reducible exact k0 | exact k0))
                          clear hKsxf0_24 Ksxf0_24
                          refine take_first 24 78 (v := ?vsxf0_25) rfl rfl (by kernel_rfl) (by kernel_rfl) (by kernel_rfl) (fun _ _ _ h => h) (by rfl) ?ysxf0_25 (by assumption) ?rsxf0_25
                          case ysxf0_25 => (intro w hSw; (try dsimp only at hSw); go_simp; (try with_reducible rfl))
                          simp only [Act.put, List.setIfInBounds_toArray, List.set_cons_zero, List.set_cons_succ]
                          refine take_first 25 79 (v := ?vsxf0_26) rfl rfl (by kernel_rfl) (by kernel_rfl) (by kernel_rfl) (fun _ _ _ h => h) (by rfl) ?ysxf0_26 (by assumption) ?rsxf0_26
                          case ysxf0_26 => (intro w hSw; (try dsimp only at hSw); go_simp; (try with_reducible rfl))
                          simp only [Act.put, List.setIfInBounds_toArray, List.set_cons_zero, List.set_cons_succ]
                          refine take_first 26 80 (v := ?vsxf0_27) rfl rfl (by kernel_rfl) (by kernel_rfl) (by kernel_rfl) (fun _ _ _ h => h) (by rfl) ?ysxf0_27 (by assumption) ?rsxf0_27
                          case ysxf0_27 => (intro w hSw; (try dsimp only at hSw); go_simp; (try with_reducible rfl))
                          simp only [Act.put, List.setIfInBounds_toArray, List.set_cons_zero, List.set_cons_succ]
                          refine take_first 27 81 (v := ?vsxf0_28) rfl rfl (by kernel_rfl) (by kernel_rfl) (by kernel_rfl) (fun _ _ _ h => h) (by rfl) ?ysxf0_28 (by assumption) ?rsxf0_28
                          case ysxf0_28 => (intro w hSw; (try dsimp only at hSw); go_simp; (try with_reducible rfl))
                          simp only [Act.put, List.setIfInBounds_toArray, List.set_cons_zero, List.set_cons_succ]
                          refine take_first 28 82 (v := ?vsxf0_29) rfl rfl (by kernel_rfl) (by kernel_rfl) (by kernel_rfl) (fun _ _ _ h => h) (by rfl) ?ysxf0_29 (by assumption) ?rsxf0_29
                          case ysxf0_29 => (intro w hSw; (try dsimp only at hSw); go_simp; (try with_reducible rfl))
                          simp only [Act.put, List.setIfInBounds_toArray, List.set_cons_zero, List.set_cons_succ]
                          refine wpAnyH_ready (rs := [29]) (by kernel_rfl) (by simp) ?_
                          refine AllReadyH.cons (o := _) rfl (fun Ksxf0_30 hKsxf0_30 => ?csxf0_30) ?msxf0_30
                          case msxf0_30 => exact AllReadyH.nil
                          go_simp
                          refine (l6Places_any _ _ yk (ints_row.1 (HCr.out _ HWe.out).2)).mono ?_; rintro e wd ⟨rfl, hbd⟩; rw [hD]; have HWf := Lib.hid (HWe.out.trans (hbd.mono HWe.out.size)); replace k0 := HAl.out _ HWf.out; clear hbd
                          go_wp2_with fail
                          refine hKsxf0_30.out _ _ ?ksxf0_30 (fun hHeldsxf0_30 => ?dsxf0_30)
                          case ksxf0_30 => (first | (dsimp only; (first | with_reducible exact k0 | exact k0)) | (first | with_reducible exact k0 | exact k0))
                          clear hKsxf0_30 Ksxf0_30
                          refine take_first 30 84 (v := ?vsxf0_31) rfl rfl (by kernel_rfl) (by kernel_rfl) (by kernel_rfl) (fun _ _ _ h => h) (by rfl) ?ysxf0_31 (by assumption) ?rsxf0_31
                          case ysxf0_31 => (intro w hSw; (try dsimp only at hSw); go_simp; (try with_reducible rfl))
                          simp only [Act.put, List.setIfInBounds_toArray, List.set_cons_zero, List.set_cons_succ]
                          refine take_first 31 85 (v := ?vsxf0_32) rfl rfl (by kernel_rfl) (by kernel_rfl) (by kernel_rfl) (fun _ _ _ h => h) (by rfl) ?ysxf0_32 (by assumption) ?rsxf0_32
                          case ysxf0_32 => (intro w hSw; (try dsimp only at hSw); go_simp; (try with_reducible rfl))
                          simp only [Act.put, List.setIfInBounds_toArray, List.set_cons_zero, List.set_cons_succ]
                          refine take_first 32 86 (v := ?vsxf0_33) rfl rfl (by kernel_rfl) (by kernel_rfl) (by kernel_rfl) (fun _ _ _ h => h) (by rfl) ?ysxf0_33 (by assumption) ?rsxf0_33
                          case ysxf0_33 => (intro w hSw; (try dsimp only at hSw); go_simp; (try with_reducible rfl))
                          simp only [Act.put, List.setIfInBounds_toArray, List.set_cons_zero, List.set_cons_succ]
                          refine take_first 33 87 (v := ?vsxf0_34) rfl rfl (by kernel_rfl) (by kernel_rfl) (by kernel_rfl) (fun _ _ _ h => h) (by rfl) ?ysxf0_34 (by assumption) ?rsxf0_34
                          case ysxf0_34 => (intro w hSw; (try dsimp only at hSw); go_simp; (try with_reducible rfl))
                          simp only [Act.put, List.setIfInBounds_toArray, List.set_cons_zero, List.set_cons_succ]
                          refine take_first 34 88 (v := ?vsxf0_35) rfl rfl (by kernel_rfl) (by kernel_rfl) (by kernel_rfl) (fun _ _ _ h => h) (by rfl) ?ysxf0_35 (by assumption) ?rsxf0_35
                          case ysxf0_35 => (intro w hSw; (try dsimp only at hSw); go_simp; (try with_reducible rfl))
                          simp only [Act.put, List.setIfInBounds_toArray, List.set_cons_zero, List.set_cons_succ]
                          refine take_first 35 89 (v := ?vsxf0_36) rfl rfl (by kernel_rfl) (by kernel_rfl) (by kernel_rfl) (fun _ _ _ h => h) (by rfl) ?ysxf0_36 (by assumption) ?rsxf0_36
                          case ysxf0_36 => (intro w hSw; (try dsimp only at hSw); go_simp; (try with_reducible rfl))
                          simp only [Act.put, List.setIfInBounds_toArray, List.set_cons_zero, List.set_cons_succ]
                          refine take_first 36 90 (v := ?vsxf0_37) rfl rfl (by kernel_rfl) (by kernel_rfl) (by kernel_rfl) (fun _ _ _ h => h) (by rfl) ?ysxf0_37 (by assumption) ?rsxf0_37
                          case ysxf0_37 => (intro w hSw; (try dsimp only at hSw); go_simp; (try with_reducible rfl))
                          simp only [Act.put, List.setIfInBounds_toArray, List.set_cons_zero, List.set_cons_succ]
                          refine take_first 37 91 (v := ?vsxf0_38) rfl rfl (by kernel_rfl) (by kernel_rfl) (by kernel_rfl) (fun _ _ _ h => h) (by rfl) ?ysxf0_38 (by assumption) ?rsxf0_38
                          case ysxf0_38 => (intro w hSw; (try dsimp only at hSw); go_simp; (try with_reducible rfl))
                          simp only [Act.put, List.setIfInBounds_toArray, List.set_cons_zero, List.set_cons_succ]
                          refine take_first 38 92 (v := ?vsxf0_39) rfl rfl (by kernel_rfl) (by kernel_rfl) (by kernel_rfl) (fun _ _ _ h => h) (by rfl) ?ysxf0_39 (by assumption) ?rsxf0_39
                          case ysxf0_39 => (intro w hSw; (try dsimp only at hSw); go_simp; (try with_reducible rfl))
                          simp only [Act.put, List.setIfInBounds_toArray, List.set_cons_zero, List.set_cons_succ]
                          refine take_first 39 93 (v := ?vsxf0_40) rfl rfl (by kernel_rfl) (by kernel_rfl) (by kernel_rfl) (fun _ _ _ h => h) (by rfl) ?ysxf0_40 (by assumption) ?rsxf0_40
                          case ysxf0_40 => (intro w hSw; (try dsimp only at hSw); go_simp; (try with_reducible rfl))
                          simp only [Act.put, List.setIfInBounds_toArray, List.set_cons_zero, List.set_cons_succ]
                          refine wpAnyH_ready (rs := [40]) (by kernel_rfl) (by simp) ?_
                          refine AllReadyH.cons (o := _) rfl (fun Ksxf0_41 hKsxf0_41 => ?csxf0_41) ?msxf0_41
                          case msxf0_41 => exact AllReadyH.nil
                          go_simp
                          refine (l2Of_any _ _ _ x.disk.notes yt (HNr.out _ (HGo.out _ HWf.out))).mono ?_; rintro e we ⟨rfl, rfl⟩
                          go_wp2_with fail
                          refine hKsxf0_41.out _ _ ?ksxf0_41 (fun hHeldsxf0_41 => ?dsxf0_41)
                          case ksxf0_41 => (first | (dsimp only; (first | with_reducible exact k0 | exact k0)) | (first | with_reducible exact k0 | exact k0))
                          clear hKsxf0_41 Ksxf0_41
                          refine take_first 41 95 (v := ?vsxf0_42) rfl rfl (by kernel_rfl) (by kernel_rfl) (by kernel_rfl) (fun _ _ _ h => h) (by rfl) ?ysxf0_42 (by assumption) ?rsxf0_42
                          case ysxf0_42 => (intro w hSw; (try dsimp only at hSw); go_simp; (try with_reducible rfl))
                          simp only [Act.put, List.setIfInBounds_toArray, List.set_cons_zero, List.set_cons_succ]
                          refine take_first 42 96 (v := ?vsxf0_43) rfl rfl (by kernel_rfl) (by kernel_rfl) (by kernel_rfl) (fun _ _ _ h => h) (by rfl) ?ysxf0_43 (by assumption) ?rsxf0_43
                          case ysxf0_43 => (intro w hSw; (try dsimp only at hSw); go_simp; (try with_reducible rfl))
                          simp only [Act.put, List.setIfInBounds_toArray, List.set_cons_zero, List.set_cons_succ]
                          refine take_first 43 97 (v := ?vsxf0_44) rfl rfl (by kernel_rfl) (by kernel_rfl) (by kernel_rfl) (fun _ _ _ h => h) (by rfl) ?ysxf0_44 (by assumption) ?rsxf0_44
                          case ysxf0_44 => (intro w hSw; (try dsimp only at hSw); go_simp; (try with_reducible rfl))
                          simp only [Act.put, List.setIfInBounds_toArray, List.set_cons_zero, List.set_cons_succ]
                          refine wpAnyH_done (by kernel_rfl) ?esxf0 _
                          clear k0
                          obtain ⟨-, -, -, q1, q2, q3, q4, q5, q6, q7, q8, -, q10⟩ := HAl.out _ HWf.out
                          go_wp2_with fail
                          clear q1 q2 q3 q4 q5 q6 q7 q8 q10
                          refine (specOpOk_any _ yo).mono ?_
                          rintro e wg ⟨rfl, hbg⟩
                          have HWg := Lib.hid (HWf.out.trans (hbg.mono HWf.out.size))
                          obtain ⟨-, -, -, -, -, -, -, -, -, -, -, -, q10⟩ := HAl.out _ HWg.out
                          clear hbg
                          cases hP : opB yo with
                          | false =>
                            have HNo := Lib.hid (show froB x = false from fro_false (.inr (.inr (.inr (by rw [HI.out, HW.out, HVf.out, hP]; rfl)))))
                            have HBz := Lib.hid (HYr.out _ (HGo.out _ HWg.out)).2
                            clear hP
                            go_wp2
                            go_ret
                            exact ⟨ret_bool HNo.out.symm, HBz.out⟩
                          | true =>
                            by_cases hk0 : yk.length = 0
                            · have ha : actB ⟨yt, yo, false, yc, yk⟩ (lastK x.disk.notes yt == 2) = true := by rw [HVf.out, hP]; simp [hk0]
                              have HSt := Lib.hid (show wayB x.disk.notes (-1) x.way = wayB x.disk.notes (pvT x.way (0 + 1)) (x.way.drop (0 + 1)) by
                                have hp : 0 ≤ yt := act_pos ha
                                rw [HI.out, HW.out, ha, show pvT x.way 0 = -1 from rfl, show decide ((-1 : Int) < yt) = true by simp; omega]; rfl)
                              have HBz := Lib.hid (HGo.out _ HWg.out)
                              have hk3 : ¬ (0 : Int) < (yk.length : Int) := by omega
                              have hk4 : ¬ 0 < yk.length := by omega
                              clear ha hP hk0
                              go_wp2
                              go_roundw
                              case rel => exact ⟨0 + 1, by omega, by go_num, HSt.out, HBz.out⟩
                              case measure => simp [intOf]; omega
                            · have HNo := Lib.hid (show froB x = false from fro_false (.inr (.inr (.inr (by rw [HI.out, HW.out, HVf.out, hP]; simp [hk0])))))
                              have HBz := Lib.hid (HYr.out _ (HGo.out _ HWg.out)).2
                              have hk3 : (0 : Int) < (yk.length : Int) := by omega
                              have hk4 : 0 < yk.length := by omega
                              clear hP hk0
                              go_wp2
                              go_ret
                              exact ⟨ret_bool HNo.out.symm, HBz.out⟩
                · obtain ⟨j, hj⟩ : ∃ j, k = j + 1 := ⟨k - 1, by omega⟩
                  obtain ⟨z, hz⟩ : ∃ z, x.way[j]? = some z := ⟨_, List.getElem?_eq_getElem (by omega)⟩
                  have hsub : (k : Int) - 1 = (j : Int) := by omega
                  have hwj : IntKind.i64.wrap (j : Int) = (j : Int) := IntWalk.i64_in _ (by omega)
                  have hji : (j : Int) < (x.way.length : Int) := by omega
                  have hj0 : (0 : Int) ≤ (j : Int) := by omega
                  have hk1 : (0 : Int) < (k : Int) := by omega
                  have hk2 : 0 < k := by omega
                  have HPv := Lib.hid (show pvT x.way k = z.tx by rw [hj]; exact pvT_next hz)
                  have HZj := Lib.hid hz
                  have k0 := And.intro (HTp.out _ HWb.out j z hz) (HAl.out _ HWb.out)
                  clear hj h0 hz
                  by_cases hge : yt ≤ z.tx
                  · have HNo := Lib.hid (show froB x = false from fro_false (.inr (.inr (.inr (by rw [HI.out, HW.out, HPv.out, show decide (z.tx < yt) = false by simp; omega]; simp)))))
                    refine wp_region_held_drew (S := (fun w' => w'.cell? ⟨bw, ow + j * 11, none⟩ = some (.int .i64 z.tx) ∧ w'.cell? ⟨w.heap.size, 2, none⟩ = some (.slice (some ⟨bw, ow, none⟩) x.way.length cw) ∧ w'.cell? ⟨w.heap.size, 0, none⟩ = some (.slice An x.disk.notes.length cn) ∧ w'.cell? ⟨wr.heap.size, 0, none⟩ = some (.int .i64 yt) ∧ w'.cell? ⟨wr.heap.size, 1, none⟩ = some (.int .i64 yo.kind) ∧ w'.cell? ⟨wr.heap.size, 2, none⟩ = some (.int .i64 yo.who) ∧ w'.cell? ⟨wr.heap.size, 3, none⟩ = some (.int .i64 yo.inn) ∧ w'.cell? ⟨wr.heap.size, 4, none⟩ = some (.int .i64 yo.code) ∧ w'.cell? ⟨wr.heap.size, 5, none⟩ = some (.int .i64 yo.sec) ∧ w'.cell? ⟨wr.heap.size, 6, none⟩ = some (.int .i64 yo.fam) ∧ w'.cell? ⟨wr.heap.size, 7, none⟩ = some (.int .i64 yo.gen) ∧ w'.cell? ⟨wr.heap.size, 8, none⟩ = some (.bool yy) ∧ w'.cell? ⟨wr.heap.size, 9, none⟩ = some (.slice Ac yc.length cc) ∧ w'.cell? ⟨wr.heap.size, 10, none⟩ = some (.slice Ak yk.length ck))) (by kernel_rfl) ?hSsyg (fun hHeldsyg => ?stsyg)
                    case hSsyg => (first | (dsimp only; (first | with_reducible exact k0 | exact k0)) | (first | with_reducible exact k0 | exact k0))
                    refine take_first 0 54 (v := ?vsyg_1) rfl rfl (by kernel_rfl) (by kernel_rfl) (by kernel_rfl) (fun _ _ _ h => h) (by rfl) ?ysyg_1 (by assumption) ?rsyg_1
                    case ysyg_1 => (intro w hSw; (try dsimp only at hSw); go_simp; (try with_reducible rfl))
                    simp only [Act.put, List.setIfInBounds_toArray, List.set_cons_zero, List.set_cons_succ]
                    refine take_first 1 55 (v := ?vsyg_2) rfl rfl (by kernel_rfl) (by kernel_rfl) (by kernel_rfl) (fun _ _ _ h => h) (by rfl) ?ysyg_2 (by assumption) ?rsyg_2
                    case ysyg_2 => (intro w hSw; (try dsimp only at hSw); go_simp; (try with_reducible rfl))
                    simp only [Act.put, List.setIfInBounds_toArray, List.set_cons_zero, List.set_cons_succ]
                    refine wpAnyH_ready (rs := [2]) (by kernel_rfl) (by simp) ?_
                    refine AllReadyH.cons (o := _) rfl (fun Ksyg_3 hKsyg_3 => ?csyg_3) ?msyg_3
                    case msyg_3 => exact AllReadyH.nil
                    go_simp
                    refine (l1In_any _ _ _ _).mono ?_; rintro e wz ⟨rfl, rfl⟩; rw [hA]
                    go_wp2_with fail
                    refine hKsyg_3.out _ _ ?ksyg_3 (fun hHeldsyg_3 => ?dsyg_3)
                    case ksyg_3 => (first | (dsimp only; (first | with_reducible exact k0 | exact k0)) | (first | with_reducible exact k0 | exact k0))
                    clear hKsyg_3 Ksyg_3
                    refine take_first 3 57 (v := ?vsyg_4) rfl rfl (by kernel_rfl) (by kernel_rfl) (by kernel_rfl) (fun _ _ _ h => h) (by rfl) ?ysyg_4 (by assumption) ?rsyg_4
                    case ysyg_4 => (intro w hSw; (try dsimp only at hSw); go_simp; (try with_reducible rfl))
                    simp only [Act.put, List.setIfInBounds_toArray, List.set_cons_zero, List.set_cons_succ]
                    refine take_first 4 58 (v := ?vsyg_5) rfl rfl (by kernel_rfl) (by kernel_rfl) (by kernel_rfl) (fun _ _ _ h => h) (by rfl) ?ysyg_5 (by assumption) ?rsyg_5
                    case ysyg_5 => (intro w hSw; (try dsimp only at hSw); go_simp; (try with_reducible rfl))
                    simp only [Act.put, List.setIfInBounds_toArray, List.set_cons_zero, List.set_cons_succ]
                    refine take_first 5 59 (v := ?vsyg_6) rfl rfl (by kernel_rfl) (by kernel_rfl) (by kernel_rfl) (fun _ _ _ h => h) (by rfl) ?ysyg_6 (by assumption) ?rsyg_6
                    case ysyg_6 => (intro w hSw; (try dsimp only at hSw); go_simp; (try with_reducible rfl))
                    simp only [Act.put, List.setIfInBounds_toArray, List.set_cons_zero, List.set_cons_succ]
                    refine take_first 6 60 (v := ?vsyg_7) rfl rfl (by kernel_rfl) (by kernel_rfl) (by kernel_rfl) (fun _ _ _ h => h) (by rfl) ?ysyg_7 (by assumption) ?rsyg_7
                    case ysyg_7 => (intro w hSw; (try dsimp only at hSw); go_simp; (try with_reducible rfl))
                    simp only [Act.put, List.setIfInBounds_toArray, List.set_cons_zero, List.set_cons_succ]
                    refine take_first 7 61 (v := ?vsyg_8) rfl rfl (by kernel_rfl) (by kernel_rfl) (by kernel_rfl) (fun _ _ _ h => h) (by rfl) ?ysyg_8 (by assumption) ?rsyg_8
                    case ysyg_8 => (intro w hSw; (try dsimp only at hSw); go_simp; (try with_reducible rfl))
                    simp only [Act.put, List.setIfInBounds_toArray, List.set_cons_zero, List.set_cons_succ]
                    refine take_first 8 62 (v := ?vsyg_9) rfl rfl (by kernel_rfl) (by kernel_rfl) (by kernel_rfl) (fun _ _ _ h => h) (by rfl) ?ysyg_9 (by assumption) ?rsyg_9
                    case ysyg_9 => (intro w hSw; (try dsimp only at hSw); go_simp; (try with_reducible rfl))
                    simp only [Act.put, List.setIfInBounds_toArray, List.set_cons_zero, List.set_cons_succ]
                    refine take_first 9 63 (v := ?vsyg_10) rfl rfl (by kernel_rfl) (by kernel_rfl) (by kernel_rfl) (fun _ _ _ h => h) (by rfl) ?ysyg_10 (by assumption) ?rsyg_10
                    case ysyg_10 => (intro w hSw; (try dsimp only at hSw); go_simp; (try with_reducible rfl))
                    simp only [Act.put, List.setIfInBounds_toArray, List.set_cons_zero, List.set_cons_succ]
                    refine take_first 10 64 (v := ?vsyg_11) rfl rfl (by kernel_rfl) (by kernel_rfl) (by kernel_rfl) (fun _ _ _ h => h) (by rfl) ?ysyg_11 (by assumption) ?rsyg_11
                    case ysyg_11 => (intro w hSw; (try dsimp only at hSw); go_simp; (try with_reducible rfl))
                    simp only [Act.put, List.setIfInBounds_toArray, List.set_cons_zero, List.set_cons_succ]
                    refine take_first 11 65 (v := ?vsyg_12) rfl rfl (by kernel_rfl) (by kernel_rfl) (by kernel_rfl) (fun _ _ _ h => h) (by rfl) ?ysyg_12 (by assumption) ?rsyg_12
                    case ysyg_12 => (intro w hSw; (try dsimp only at hSw); go_simp; (try with_reducible rfl))
                    simp only [Act.put, List.setIfInBounds_toArray, List.set_cons_zero, List.set_cons_succ]
                    refine take_first 12 66 (v := ?vsyg_13) rfl rfl (by kernel_rfl) (by kernel_rfl) (by kernel_rfl) (fun _ _ _ h => h) (by rfl) ?ysyg_13 (by assumption) ?rsyg_13
                    case ysyg_13 => (intro w hSw; (try dsimp only at hSw); go_simp; (try with_reducible rfl))
                    simp only [Act.put, List.setIfInBounds_toArray, List.set_cons_zero, List.set_cons_succ]
                    refine take_first 13 67 (v := ?vsyg_14) rfl rfl (by kernel_rfl) (by kernel_rfl) (by kernel_rfl) (fun _ _ _ h => h) (by rfl) ?ysyg_14 (by assumption) ?rsyg_14
                    case ysyg_14 => (intro w hSw; (try dsimp only at hSw); go_simp; (try with_reducible rfl))
                    simp only [Act.put, List.setIfInBounds_toArray, List.set_cons_zero, List.set_cons_succ]
                    refine take_first 14 68 (v := ?vsyg_15) rfl rfl (by kernel_rfl) (by kernel_rfl) (by kernel_rfl) (fun _ _ _ h => h) (by rfl) ?ysyg_15 (by assumption) ?rsyg_15
                    case ysyg_15 => (intro w hSw; (try dsimp only at hSw); go_simp; (try with_reducible rfl))
                    simp only [Act.put, List.setIfInBounds_toArray, List.set_cons_zero, List.set_cons_succ]
                    refine take_first 15 69 (v := ?vsyg_16) rfl rfl (by kernel_rfl) (by kernel_rfl) (by kernel_rfl) (fun _ _ _ h => h) (by rfl) ?ysyg_16 (by assumption) ?rsyg_16
                    case ysyg_16 => (intro w hSw; (try dsimp only at hSw); go_simp; (try with_reducible rfl))
                    simp only [Act.put, List.setIfInBounds_toArray, List.set_cons_zero, List.set_cons_succ]
                    refine take_first 16 70 (v := ?vsyg_17) rfl rfl (by kernel_rfl) (by kernel_rfl) (by kernel_rfl) (fun _ _ _ h => h) (by rfl) ?ysyg_17 (by assumption) ?rsyg_17
                    case ysyg_17 => (intro w hSw; (try dsimp only at hSw); go_simp; (try with_reducible rfl))
                    simp only [Act.put, List.setIfInBounds_toArray, List.set_cons_zero, List.set_cons_succ]
                    refine take_first 17 71 (v := ?vsyg_18) rfl rfl (by kernel_rfl) (by kernel_rfl) (by kernel_rfl) (fun _ _ _ h => h) (by rfl) ?ysyg_18 (by assumption) ?rsyg_18
                    case ysyg_18 => (intro w hSw; (try dsimp only at hSw); go_simp; (try with_reducible rfl))
                    simp only [Act.put, List.setIfInBounds_toArray, List.set_cons_zero, List.set_cons_succ]
                    refine take_first 18 72 (v := ?vsyg_19) rfl rfl (by kernel_rfl) (by kernel_rfl) (by kernel_rfl) (fun _ _ _ h => h) (by rfl) ?ysyg_19 (by assumption) ?rsyg_19
                    case ysyg_19 => (intro w hSw; (try dsimp only at hSw); go_simp; (try with_reducible rfl))
                    simp only [Act.put, List.setIfInBounds_toArray, List.set_cons_zero, List.set_cons_succ]
                    refine take_first 19 73 (v := ?vsyg_20) rfl rfl (by kernel_rfl) (by kernel_rfl) (by kernel_rfl) (fun _ _ _ h => h) (by rfl) ?ysyg_20 (by assumption) ?rsyg_20
                    case ysyg_20 => (intro w hSw; (try dsimp only at hSw); go_simp; (try with_reducible rfl))
                    simp only [Act.put, List.setIfInBounds_toArray, List.set_cons_zero, List.set_cons_succ]
                    refine take_first 20 74 (v := ?vsyg_21) rfl rfl (by kernel_rfl) (by kernel_rfl) (by kernel_rfl) (fun _ _ _ h => h) (by rfl) ?ysyg_21 (by assumption) ?rsyg_21
                    case ysyg_21 => (intro w hSw; (try dsimp only at hSw); go_simp; (try with_reducible rfl))
                    simp only [Act.put, List.setIfInBounds_toArray, List.set_cons_zero, List.set_cons_succ]
                    refine pass_over 21 75 rfl rfl (by kernel_rfl) (by kernel_rfl) (by kernel_rfl) (fun _ _ _ h => h) (by rfl) (by assumption) ?rsyg_22
                    simp only [Act.put, List.setIfInBounds_toArray, List.set_cons_zero, List.set_cons_succ]
                    refine pass_over 22 76 rfl rfl (by kernel_rfl) (by kernel_rfl) (by kernel_rfl) (fun _ _ _ h => h) (by rfl) (by assumption) ?rsyg_23
                    simp only [Act.put, List.setIfInBounds_toArray, List.set_cons_zero, List.set_cons_succ]
                    refine pass_over 23 77 rfl rfl (by kernel_rfl) (by kernel_rfl) (by kernel_rfl) (fun _ _ _ h => h) (by rfl) (by assumption) ?rsyg_24
                    simp only [Act.put, List.setIfInBounds_toArray, List.set_cons_zero, List.set_cons_succ]
                    refine pass_over 24 78 rfl rfl (by kernel_rfl) (by kernel_rfl) (by kernel_rfl) (fun _ _ _ h => h) (by rfl) (by assumption) ?rsyg_25
                    simp only [Act.put, List.setIfInBounds_toArray, List.set_cons_zero, List.set_cons_succ]
                    refine take_first 25 79 (v := ?vsyg_26) rfl rfl (by kernel_rfl) (by kernel_rfl) (by kernel_rfl) (fun _ _ _ h => h) (by rfl) ?ysyg_26 (by assumption) ?rsyg_26
                    case ysyg_26 => (intro w hSw; (try dsimp only at hSw); go_simp; (try with_reducible rfl))
                    simp only [Act.put, List.setIfInBounds_toArray, List.set_cons_zero, List.set_cons_succ]
                    refine take_first 26 80 (v := ?vsyg_27) rfl rfl (by kernel_rfl) (by kernel_rfl) (by kernel_rfl) (fun _ _ _ h => h) (by rfl) ?ysyg_27 (by assumption) ?rsyg_27
                    case ysyg_27 => (intro w hSw; (try dsimp only at hSw); go_simp; (try with_reducible rfl))
                    simp only [Act.put, List.setIfInBounds_toArray, List.set_cons_zero, List.set_cons_succ]
                    refine pass_over 27 81 rfl rfl (by kernel_rfl) (by kernel_rfl) (by kernel_rfl) (fun _ _ _ h => h) (by rfl) (by assumption) ?rsyg_28
                    simp only [Act.put, List.setIfInBounds_toArray, List.set_cons_zero, List.set_cons_succ]
                    refine pass_over 28 82 rfl rfl (by kernel_rfl) (by kernel_rfl) (by kernel_rfl) (fun _ _ _ h => h) (by rfl) (by assumption) ?rsyg_29
                    simp only [Act.put, List.setIfInBounds_toArray, List.set_cons_zero, List.set_cons_succ]
                    refine pass_over 29 83 rfl rfl (by kernel_rfl) (by kernel_rfl) (by kernel_rfl) (fun _ _ _ h => h) (by rfl) (by assumption) ?rsyg_30
                    simp only [Act.put, List.setIfInBounds_toArray, List.set_cons_zero, List.set_cons_succ]
                    refine pass_over 30 84 rfl rfl (by kernel_rfl) (by kernel_rfl) (by kernel_rfl) (fun _ _ _ h => h) (by rfl) (by assumption) ?rsyg_31
                    simp only [Act.put, List.setIfInBounds_toArray, List.set_cons_zero, List.set_cons_succ]
                    refine take_first 31 85 (v := ?vsyg_32) rfl rfl (by kernel_rfl) (by kernel_rfl) (by kernel_rfl) (fun _ _ _ h => h) (by rfl) ?ysyg_32 (by assumption) ?rsyg_32
                    case ysyg_32 => (intro w hSw; (try dsimp only at hSw); go_simp; (try with_reducible rfl))
                    simp only [Act.put, List.setIfInBounds_toArray, List.set_cons_zero, List.set_cons_succ]
                    refine take_first 32 86 (v := ?vsyg_33) rfl rfl (by kernel_rfl) (by kernel_rfl) (by kernel_rfl) (fun _ _ _ h => h) (by rfl) ?ysyg_33 (by assumption) ?rsyg_33
                    case ysyg_33 => (intro w hSw; (try dsimp only at hSw); go_simp; (try with_reducible rfl))
                    simp only [Act.put, List.setIfInBounds_toArray, List.set_cons_zero, List.set_cons_succ]
                    refine pass_over 33 87 rfl rfl (by kernel_rfl) (by kernel_rfl) (by kernel_rfl) (fun _ _ _ h => h) (by rfl) (by assumption) ?rsyg_34
                    simp only [Act.put, List.setIfInBounds_toArray, List.set_cons_zero, List.set_cons_succ]
                    refine pass_over 34 88 rfl rfl (by kernel_rfl) (by kernel_rfl) (by kernel_rfl) (fun _ _ _ h => h) (by rfl) (by assumption) ?rsyg_35
                    simp only [Act.put, List.setIfInBounds_toArray, List.set_cons_zero, List.set_cons_succ]
                    refine pass_over 35 89 rfl rfl (by kernel_rfl) (by kernel_rfl) (by kernel_rfl) (fun _ _ _ h => h) (by rfl) (by assumption) ?rsyg_36
                    simp only [Act.put, List.setIfInBounds_toArray, List.set_cons_zero, List.set_cons_succ]
                    refine pass_over 36 90 rfl rfl (by kernel_rfl) (by kernel_rfl) (by kernel_rfl) (fun _ _ _ h => h) (by rfl) (by assumption) ?rsyg_37
                    simp only [Act.put, List.setIfInBounds_toArray, List.set_cons_zero, List.set_cons_succ]
                    refine pass_over 37 91 rfl rfl (by kernel_rfl) (by kernel_rfl) (by kernel_rfl) (fun _ _ _ h => h) (by rfl) (by assumption) ?rsyg_38
                    simp only [Act.put, List.setIfInBounds_toArray, List.set_cons_zero, List.set_cons_succ]
                    refine pass_over 38 92 rfl rfl (by kernel_rfl) (by kernel_rfl) (by kernel_rfl) (fun _ _ _ h => h) (by rfl) (by assumption) ?rsyg_39
                    simp only [Act.put, List.setIfInBounds_toArray, List.set_cons_zero, List.set_cons_succ]
                    refine pass_over 39 93 rfl rfl (by kernel_rfl) (by kernel_rfl) (by kernel_rfl) (fun _ _ _ h => h) (by rfl) (by assumption) ?rsyg_40
                    simp only [Act.put, List.setIfInBounds_toArray, List.set_cons_zero, List.set_cons_succ]
                    refine pass_over 40 94 rfl rfl (by kernel_rfl) (by kernel_rfl) (by kernel_rfl) (fun _ _ _ h => h) (by rfl) (by assumption) ?rsyg_41
                    simp only [Act.put, List.setIfInBounds_toArray, List.set_cons_zero, List.set_cons_succ]
                    refine pass_over 41 95 rfl rfl (by kernel_rfl) (by kernel_rfl) (by kernel_rfl) (fun _ _ _ h => h) (by rfl) (by assumption) ?rsyg_42
                    simp only [Act.put, List.setIfInBounds_toArray, List.set_cons_zero, List.set_cons_succ]
                    refine pass_over 42 96 rfl rfl (by kernel_rfl) (by kernel_rfl) (by kernel_rfl) (fun _ _ _ h => h) (by rfl) (by assumption) ?rsyg_43
                    simp only [Act.put, List.setIfInBounds_toArray, List.set_cons_zero, List.set_cons_succ]
                    refine take_first 43 97 (v := ?vsyg_44) rfl rfl (by kernel_rfl) (by kernel_rfl) (by kernel_rfl) (fun _ _ _ h => h) (by rfl) ?ysyg_44 (by assumption) ?rsyg_44
                    case ysyg_44 => (intro w hSw; (try dsimp only at hSw); go_simp; (try with_reducible rfl))
                    simp only [Act.put, List.setIfInBounds_toArray, List.set_cons_zero, List.set_cons_succ]
                    refine wpAnyH_done (by kernel_rfl) ?esyg _
                    clear k0
                    have HBz := Lib.hid (HYr.out _ (HGo.out _ HWb.out)).2
                    go_wp2
                    go_ret
                    exact ⟨ret_bool HNo.out.symm, HBz.out⟩
                  · skip
                    cases hC : plsB yc with
                    | false =>
                      have HNo := Lib.hid (show froB x = false from fro_false (.inr (.inr (.inr (by rw [HI.out, HW.out, show actB ⟨yt, yo, yy, yc, yk⟩ (lastK x.disk.notes yt == 2) = false by (rw [HV.out, hC]; simp)]; rfl)))))
                      refine wp_region_held_drew (S := (fun w' => w'.cell? ⟨bw, ow + j * 11, none⟩ = some (.int .i64 z.tx) ∧ w'.cell? ⟨w.heap.size, 2, none⟩ = some (.slice (some ⟨bw, ow, none⟩) x.way.length cw) ∧ w'.cell? ⟨w.heap.size, 0, none⟩ = some (.slice An x.disk.notes.length cn) ∧ w'.cell? ⟨wr.heap.size, 0, none⟩ = some (.int .i64 yt) ∧ w'.cell? ⟨wr.heap.size, 1, none⟩ = some (.int .i64 yo.kind) ∧ w'.cell? ⟨wr.heap.size, 2, none⟩ = some (.int .i64 yo.who) ∧ w'.cell? ⟨wr.heap.size, 3, none⟩ = some (.int .i64 yo.inn) ∧ w'.cell? ⟨wr.heap.size, 4, none⟩ = some (.int .i64 yo.code) ∧ w'.cell? ⟨wr.heap.size, 5, none⟩ = some (.int .i64 yo.sec) ∧ w'.cell? ⟨wr.heap.size, 6, none⟩ = some (.int .i64 yo.fam) ∧ w'.cell? ⟨wr.heap.size, 7, none⟩ = some (.int .i64 yo.gen) ∧ w'.cell? ⟨wr.heap.size, 8, none⟩ = some (.bool yy) ∧ w'.cell? ⟨wr.heap.size, 9, none⟩ = some (.slice Ac yc.length cc) ∧ w'.cell? ⟨wr.heap.size, 10, none⟩ = some (.slice Ak yk.length ck))) (by kernel_rfl) ?hSsyc (fun hHeldsyc => ?stsyc)
                      case hSsyc => (first | (dsimp only; (first | with_reducible exact k0 | exact k0)) | (first | with_reducible exact k0 | exact k0))
                      refine take_first 0 54 (v := ?vsyc_1) rfl rfl (by kernel_rfl) (by kernel_rfl) (by kernel_rfl) (fun _ _ _ h => h) (by rfl) ?ysyc_1 (by assumption) ?rsyc_1
                      case ysyc_1 => (intro w hSw; (try dsimp only at hSw); go_simp; (try with_reducible rfl))
                      simp only [Act.put, List.setIfInBounds_toArray, List.set_cons_zero, List.set_cons_succ]
                      refine take_first 1 55 (v := ?vsyc_2) rfl rfl (by kernel_rfl) (by kernel_rfl) (by kernel_rfl) (fun _ _ _ h => h) (by rfl) ?ysyc_2 (by assumption) ?rsyc_2
                      case ysyc_2 => (intro w hSw; (try dsimp only at hSw); go_simp; (try with_reducible rfl))
                      simp only [Act.put, List.setIfInBounds_toArray, List.set_cons_zero, List.set_cons_succ]
                      refine wpAnyH_ready (rs := [2]) (by kernel_rfl) (by simp) ?_
                      refine AllReadyH.cons (o := _) rfl (fun Ksyc_3 hKsyc_3 => ?csyc_3) ?msyc_3
                      case msyc_3 => exact AllReadyH.nil
                      go_simp
                      refine (l1In_any _ _ _ _).mono ?_; rintro e wz ⟨rfl, rfl⟩; rw [hA]
                      go_wp2_with fail
                      refine hKsyc_3.out _ _ ?ksyc_3 (fun hHeldsyc_3 => ?dsyc_3)
                      case ksyc_3 => (first | (dsimp only; (first | with_reducible exact k0 | exact k0)) | (first | with_reducible exact k0 | exact k0))
                      clear hKsyc_3 Ksyc_3
                      have hgn : ¬ yt ≤ z.tx := (by omega); clear hge
                      refine take_first 3 57 (v := ?vsyc_4) rfl rfl (by kernel_rfl) (by kernel_rfl) (by kernel_rfl) (fun _ _ _ h => h) (by rfl) ?ysyc_4 (by assumption) ?rsyc_4
                      case ysyc_4 => (intro w hSw; (try dsimp only at hSw); go_simp; (try with_reducible rfl))
                      simp only [Act.put, List.setIfInBounds_toArray, List.set_cons_zero, List.set_cons_succ]
                      refine take_first 4 58 (v := ?vsyc_5) rfl rfl (by kernel_rfl) (by kernel_rfl) (by kernel_rfl) (fun _ _ _ h => h) (by rfl) ?ysyc_5 (by assumption) ?rsyc_5
                      case ysyc_5 => (intro w hSw; (try dsimp only at hSw); go_simp; (try with_reducible rfl))
                      simp only [Act.put, List.setIfInBounds_toArray, List.set_cons_zero, List.set_cons_succ]
                      refine take_first 5 59 (v := ?vsyc_6) rfl rfl (by kernel_rfl) (by kernel_rfl) (by kernel_rfl) (fun _ _ _ h => h) (by rfl) ?ysyc_6 (by assumption) ?rsyc_6
                      case ysyc_6 => (intro w hSw; (try dsimp only at hSw); go_simp; (try with_reducible rfl))
                      simp only [Act.put, List.setIfInBounds_toArray, List.set_cons_zero, List.set_cons_succ]
                      refine take_first 6 60 (v := ?vsyc_7) rfl rfl (by kernel_rfl) (by kernel_rfl) (by kernel_rfl) (fun _ _ _ h => h) (by rfl) ?ysyc_7 (by assumption) ?rsyc_7
                      case ysyc_7 => (intro w hSw; (try dsimp only at hSw); go_simp; (try with_reducible rfl))
                      simp only [Act.put, List.setIfInBounds_toArray, List.set_cons_zero, List.set_cons_succ]
                      refine take_first 7 61 (v := ?vsyc_8) rfl rfl (by kernel_rfl) (by kernel_rfl) (by kernel_rfl) (fun _ _ _ h => h) (by rfl) ?ysyc_8 (by assumption) ?rsyc_8
                      case ysyc_8 => (intro w hSw; (try dsimp only at hSw); go_simp; (try with_reducible rfl))
                      simp only [Act.put, List.setIfInBounds_toArray, List.set_cons_zero, List.set_cons_succ]
                      refine take_first 8 62 (v := ?vsyc_9) rfl rfl (by kernel_rfl) (by kernel_rfl) (by kernel_rfl) (fun _ _ _ h => h) (by rfl) ?ysyc_9 (by assumption) ?rsyc_9
                      case ysyc_9 => (intro w hSw; (try dsimp only at hSw); go_simp; (try with_reducible rfl))
                      simp only [Act.put, List.setIfInBounds_toArray, List.set_cons_zero, List.set_cons_succ]
                      refine take_first 9 63 (v := ?vsyc_10) rfl rfl (by kernel_rfl) (by kernel_rfl) (by kernel_rfl) (fun _ _ _ h => h) (by rfl) ?ysyc_10 (by assumption) ?rsyc_10
                      case ysyc_10 => (intro w hSw; (try dsimp only at hSw); go_simp; (try with_reducible rfl))
                      simp only [Act.put, List.setIfInBounds_toArray, List.set_cons_zero, List.set_cons_succ]
                      refine take_first 10 64 (v := ?vsyc_11) rfl rfl (by kernel_rfl) (by kernel_rfl) (by kernel_rfl) (fun _ _ _ h => h) (by rfl) ?ysyc_11 (by assumption) ?rsyc_11
                      case ysyc_11 => (intro w hSw; (try dsimp only at hSw); go_simp; (try with_reducible rfl))
                      simp only [Act.put, List.setIfInBounds_toArray, List.set_cons_zero, List.set_cons_succ]
                      refine take_first 11 65 (v := ?vsyc_12) rfl rfl (by kernel_rfl) (by kernel_rfl) (by kernel_rfl) (fun _ _ _ h => h) (by rfl) ?ysyc_12 (by assumption) ?rsyc_12
                      case ysyc_12 => (intro w hSw; (try dsimp only at hSw); go_simp; (try with_reducible rfl))
                      simp only [Act.put, List.setIfInBounds_toArray, List.set_cons_zero, List.set_cons_succ]
                      refine take_first 12 66 (v := ?vsyc_13) rfl rfl (by kernel_rfl) (by kernel_rfl) (by kernel_rfl) (fun _ _ _ h => h) (by rfl) ?ysyc_13 (by assumption) ?rsyc_13
                      case ysyc_13 => (intro w hSw; (try dsimp only at hSw); go_simp; (try with_reducible rfl))
                      simp only [Act.put, List.setIfInBounds_toArray, List.set_cons_zero, List.set_cons_succ]
                      refine take_first 13 67 (v := ?vsyc_14) rfl rfl (by kernel_rfl) (by kernel_rfl) (by kernel_rfl) (fun _ _ _ h => h) (by rfl) ?ysyc_14 (by assumption) ?rsyc_14
                      case ysyc_14 => (intro w hSw; (try dsimp only at hSw); go_simp; (try with_reducible rfl))
                      simp only [Act.put, List.setIfInBounds_toArray, List.set_cons_zero, List.set_cons_succ]
                      refine take_first 14 68 (v := ?vsyc_15) rfl rfl (by kernel_rfl) (by kernel_rfl) (by kernel_rfl) (fun _ _ _ h => h) (by rfl) ?ysyc_15 (by assumption) ?rsyc_15
                      case ysyc_15 => (intro w hSw; (try dsimp only at hSw); go_simp; (try with_reducible rfl))
                      simp only [Act.put, List.setIfInBounds_toArray, List.set_cons_zero, List.set_cons_succ]
                      refine take_first 15 69 (v := ?vsyc_16) rfl rfl (by kernel_rfl) (by kernel_rfl) (by kernel_rfl) (fun _ _ _ h => h) (by rfl) ?ysyc_16 (by assumption) ?rsyc_16
                      case ysyc_16 => (intro w hSw; (try dsimp only at hSw); go_simp; (try with_reducible rfl))
                      simp only [Act.put, List.setIfInBounds_toArray, List.set_cons_zero, List.set_cons_succ]
                      refine take_first 16 70 (v := ?vsyc_17) rfl rfl (by kernel_rfl) (by kernel_rfl) (by kernel_rfl) (fun _ _ _ h => h) (by rfl) ?ysyc_17 (by assumption) ?rsyc_17
                      case ysyc_17 => (intro w hSw; (try dsimp only at hSw); go_simp; (try with_reducible rfl))
                      simp only [Act.put, List.setIfInBounds_toArray, List.set_cons_zero, List.set_cons_succ]
                      refine take_first 17 71 (v := ?vsyc_18) rfl rfl (by kernel_rfl) (by kernel_rfl) (by kernel_rfl) (fun _ _ _ h => h) (by rfl) ?ysyc_18 (by assumption) ?rsyc_18
                      case ysyc_18 => (intro w hSw; (try dsimp only at hSw); go_simp; (try with_reducible rfl))
                      simp only [Act.put, List.setIfInBounds_toArray, List.set_cons_zero, List.set_cons_succ]
                      refine take_first 18 72 (v := ?vsyc_19) rfl rfl (by kernel_rfl) (by kernel_rfl) (by kernel_rfl) (fun _ _ _ h => h) (by rfl) ?ysyc_19 (by assumption) ?rsyc_19
                      case ysyc_19 => (intro w hSw; (try dsimp only at hSw); go_simp; (try with_reducible rfl))
                      simp only [Act.put, List.setIfInBounds_toArray, List.set_cons_zero, List.set_cons_succ]
                      refine take_first 19 73 (v := ?vsyc_20) rfl rfl (by kernel_rfl) (by kernel_rfl) (by kernel_rfl) (fun _ _ _ h => h) (by rfl) ?ysyc_20 (by assumption) ?rsyc_20
                      case ysyc_20 => (intro w hSw; (try dsimp only at hSw); go_simp; (try with_reducible rfl))
                      simp only [Act.put, List.setIfInBounds_toArray, List.set_cons_zero, List.set_cons_succ]
                      refine take_first 20 74 (v := ?vsyc_21) rfl rfl (by kernel_rfl) (by kernel_rfl) (by kernel_rfl) (fun _ _ _ h => h) (by rfl) ?ysyc_21 (by assumption) ?rsyc_21
                      case ysyc_21 => (intro w hSw; (try dsimp only at hSw); go_simp; (try with_reducible rfl))
                      simp only [Act.put, List.setIfInBounds_toArray, List.set_cons_zero, List.set_cons_succ]
                      refine take_first 21 75 (v := ?vsyc_22) rfl rfl (by kernel_rfl) (by kernel_rfl) (by kernel_rfl) (fun _ _ _ h => h) (by rfl) ?ysyc_22 (by assumption) ?rsyc_22
                      case ysyc_22 => (intro w hSw; (try dsimp only at hSw); go_simp; (try with_reducible rfl))
                      simp only [Act.put, List.setIfInBounds_toArray, List.set_cons_zero, List.set_cons_succ]
                      refine take_first 22 76 (v := ?vsyc_23) rfl rfl (by kernel_rfl) (by kernel_rfl) (by kernel_rfl) (fun _ _ _ h => h) (by rfl) ?ysyc_23 (by assumption) ?rsyc_23
                      case ysyc_23 => (intro w hSw; (try dsimp only at hSw); go_simp; (try with_reducible rfl))
                      simp only [Act.put, List.setIfInBounds_toArray, List.set_cons_zero, List.set_cons_succ]
                      refine wpAnyH_ready (rs := [23]) (by kernel_rfl) (by simp) ?_
                      refine AllReadyH.cons (o := _) rfl (fun Ksyc_24 hKsyc_24 => ?csyc_24) ?msyc_24
                      case msyc_24 => exact AllReadyH.nil
                      go_simp
                      refine (l6Places_any _ _ yc (ints_row.1 (HCr.out _ HWb.out).1)).mono ?_; rintro e wc ⟨rfl, hbc⟩; rw [hC]; have HWe := Lib.hid (HWb.out.trans (hbc.mono HWb.out.size)); replace k0 := And.intro (HTp.out _ HWe.out j z HZj.out) (HAl.out _ HWe.out); clear hbc
                      go_wp2_with fail
                      refine hKsyc_24.out _ _ ?ksyc_24 (fun hHeldsyc_24 => ?dsyc_24)
                      case ksyc_24 => (first | (dsimp only; (first | with_reducible exact k0 | exact k0)) | (first | with_reducible exact k0 | exact k0))
                      clear hKsyc_24 Ksyc_24
                      refine take_first 24 78 (v := ?vsyc_25) rfl rfl (by kernel_rfl) (by kernel_rfl) (by kernel_rfl) (fun _ _ _ h => h) (by rfl) ?ysyc_25 (by assumption) ?rsyc_25
                      case ysyc_25 => (intro w hSw; (try dsimp only at hSw); go_simp; (try with_reducible rfl))
                      simp only [Act.put, List.setIfInBounds_toArray, List.set_cons_zero, List.set_cons_succ]
                      refine take_first 25 79 (v := ?vsyc_26) rfl rfl (by kernel_rfl) (by kernel_rfl) (by kernel_rfl) (fun _ _ _ h => h) (by rfl) ?ysyc_26 (by assumption) ?rsyc_26
                      case ysyc_26 => (intro w hSw; (try dsimp only at hSw); go_simp; (try with_reducible rfl))
                      simp only [Act.put, List.setIfInBounds_toArray, List.set_cons_zero, List.set_cons_succ]
                      refine take_first 26 80 (v := ?vsyc_27) rfl rfl (by kernel_rfl) (by kernel_rfl) (by kernel_rfl) (fun _ _ _ h => h) (by rfl) ?ysyc_27 (by assumption) ?rsyc_27
                      case ysyc_27 => (intro w hSw; (try dsimp only at hSw); go_simp; (try with_reducible rfl))
                      simp only [Act.put, List.setIfInBounds_toArray, List.set_cons_zero, List.set_cons_succ]
                      refine pass_over 27 81 rfl rfl (by kernel_rfl) (by kernel_rfl) (by kernel_rfl) (fun _ _ _ h => h) (by rfl) (by assumption) ?rsyc_28
                      simp only [Act.put, List.setIfInBounds_toArray, List.set_cons_zero, List.set_cons_succ]
                      refine pass_over 28 82 rfl rfl (by kernel_rfl) (by kernel_rfl) (by kernel_rfl) (fun _ _ _ h => h) (by rfl) (by assumption) ?rsyc_29
                      simp only [Act.put, List.setIfInBounds_toArray, List.set_cons_zero, List.set_cons_succ]
                      refine pass_over 29 83 rfl rfl (by kernel_rfl) (by kernel_rfl) (by kernel_rfl) (fun _ _ _ h => h) (by rfl) (by assumption) ?rsyc_30
                      simp only [Act.put, List.setIfInBounds_toArray, List.set_cons_zero, List.set_cons_succ]
                      refine pass_over 30 84 rfl rfl (by kernel_rfl) (by kernel_rfl) (by kernel_rfl) (fun _ _ _ h => h) (by rfl) (by assumption) ?rsyc_31
                      simp only [Act.put, List.setIfInBounds_toArray, List.set_cons_zero, List.set_cons_succ]
                      refine take_first 31 85 (v := ?vsyc_32) rfl rfl (by kernel_rfl) (by kernel_rfl) (by kernel_rfl) (fun _ _ _ h => h) (by rfl) ?ysyc_32 (by assumption) ?rsyc_32
                      case ysyc_32 => (intro w hSw; (try dsimp only at hSw); go_simp; (try with_reducible rfl))
                      simp only [Act.put, List.setIfInBounds_toArray, List.set_cons_zero, List.set_cons_succ]
                      refine take_first 32 86 (v := ?vsyc_33) rfl rfl (by kernel_rfl) (by kernel_rfl) (by kernel_rfl) (fun _ _ _ h => h) (by rfl) ?ysyc_33 (by assumption) ?rsyc_33
                      case ysyc_33 => (intro w hSw; (try dsimp only at hSw); go_simp; (try with_reducible rfl))
                      simp only [Act.put, List.setIfInBounds_toArray, List.set_cons_zero, List.set_cons_succ]
                      refine pass_over 33 87 rfl rfl (by kernel_rfl) (by kernel_rfl) (by kernel_rfl) (fun _ _ _ h => h) (by rfl) (by assumption) ?rsyc_34
                      simp only [Act.put, List.setIfInBounds_toArray, List.set_cons_zero, List.set_cons_succ]
                      refine pass_over 34 88 rfl rfl (by kernel_rfl) (by kernel_rfl) (by kernel_rfl) (fun _ _ _ h => h) (by rfl) (by assumption) ?rsyc_35
                      simp only [Act.put, List.setIfInBounds_toArray, List.set_cons_zero, List.set_cons_succ]
                      refine pass_over 35 89 rfl rfl (by kernel_rfl) (by kernel_rfl) (by kernel_rfl) (fun _ _ _ h => h) (by rfl) (by assumption) ?rsyc_36
                      simp only [Act.put, List.setIfInBounds_toArray, List.set_cons_zero, List.set_cons_succ]
                      refine pass_over 36 90 rfl rfl (by kernel_rfl) (by kernel_rfl) (by kernel_rfl) (fun _ _ _ h => h) (by rfl) (by assumption) ?rsyc_37
                      simp only [Act.put, List.setIfInBounds_toArray, List.set_cons_zero, List.set_cons_succ]
                      refine pass_over 37 91 rfl rfl (by kernel_rfl) (by kernel_rfl) (by kernel_rfl) (fun _ _ _ h => h) (by rfl) (by assumption) ?rsyc_38
                      simp only [Act.put, List.setIfInBounds_toArray, List.set_cons_zero, List.set_cons_succ]
                      refine pass_over 38 92 rfl rfl (by kernel_rfl) (by kernel_rfl) (by kernel_rfl) (fun _ _ _ h => h) (by rfl) (by assumption) ?rsyc_39
                      simp only [Act.put, List.setIfInBounds_toArray, List.set_cons_zero, List.set_cons_succ]
                      refine pass_over 39 93 rfl rfl (by kernel_rfl) (by kernel_rfl) (by kernel_rfl) (fun _ _ _ h => h) (by rfl) (by assumption) ?rsyc_40
                      simp only [Act.put, List.setIfInBounds_toArray, List.set_cons_zero, List.set_cons_succ]
                      refine pass_over 40 94 rfl rfl (by kernel_rfl) (by kernel_rfl) (by kernel_rfl) (fun _ _ _ h => h) (by rfl) (by assumption) ?rsyc_41
                      simp only [Act.put, List.setIfInBounds_toArray, List.set_cons_zero, List.set_cons_succ]
                      refine pass_over 41 95 rfl rfl (by kernel_rfl) (by kernel_rfl) (by kernel_rfl) (fun _ _ _ h => h) (by rfl) (by assumption) ?rsyc_42
                      simp only [Act.put, List.setIfInBounds_toArray, List.set_cons_zero, List.set_cons_succ]
                      refine pass_over 42 96 rfl rfl (by kernel_rfl) (by kernel_rfl) (by kernel_rfl) (fun _ _ _ h => h) (by rfl) (by assumption) ?rsyc_43
                      simp only [Act.put, List.setIfInBounds_toArray, List.set_cons_zero, List.set_cons_succ]
                      refine take_first 43 97 (v := ?vsyc_44) rfl rfl (by kernel_rfl) (by kernel_rfl) (by kernel_rfl) (fun _ _ _ h => h) (by rfl) ?ysyc_44 (by assumption) ?rsyc_44
                      case ysyc_44 => (intro w hSw; (try dsimp only at hSw); go_simp; (try with_reducible rfl))
                      simp only [Act.put, List.setIfInBounds_toArray, List.set_cons_zero, List.set_cons_succ]
                      refine wpAnyH_done (by kernel_rfl) ?esyc _
                      clear k0
                      have HBz := Lib.hid (HYr.out _ (HGo.out _ HWe.out)).2
                      go_wp2
                      go_ret
                      exact ⟨ret_bool HNo.out.symm, HBz.out⟩
                    | true =>
                      cases hD : plsB yk with
                      | false =>
                        have HNo := Lib.hid (show froB x = false from fro_false (.inr (.inr (.inr (by rw [HI.out, HW.out, show actB ⟨yt, yo, yy, yc, yk⟩ (lastK x.disk.notes yt == 2) = false by (rw [HV.out, hD]; simp)]; rfl)))))
                        refine wp_region_held_drew (S := (fun w' => w'.cell? ⟨bw, ow + j * 11, none⟩ = some (.int .i64 z.tx) ∧ w'.cell? ⟨w.heap.size, 2, none⟩ = some (.slice (some ⟨bw, ow, none⟩) x.way.length cw) ∧ w'.cell? ⟨w.heap.size, 0, none⟩ = some (.slice An x.disk.notes.length cn) ∧ w'.cell? ⟨wr.heap.size, 0, none⟩ = some (.int .i64 yt) ∧ w'.cell? ⟨wr.heap.size, 1, none⟩ = some (.int .i64 yo.kind) ∧ w'.cell? ⟨wr.heap.size, 2, none⟩ = some (.int .i64 yo.who) ∧ w'.cell? ⟨wr.heap.size, 3, none⟩ = some (.int .i64 yo.inn) ∧ w'.cell? ⟨wr.heap.size, 4, none⟩ = some (.int .i64 yo.code) ∧ w'.cell? ⟨wr.heap.size, 5, none⟩ = some (.int .i64 yo.sec) ∧ w'.cell? ⟨wr.heap.size, 6, none⟩ = some (.int .i64 yo.fam) ∧ w'.cell? ⟨wr.heap.size, 7, none⟩ = some (.int .i64 yo.gen) ∧ w'.cell? ⟨wr.heap.size, 8, none⟩ = some (.bool yy) ∧ w'.cell? ⟨wr.heap.size, 9, none⟩ = some (.slice Ac yc.length cc) ∧ w'.cell? ⟨wr.heap.size, 10, none⟩ = some (.slice Ak yk.length ck))) (by kernel_rfl) ?hSsyd (fun hHeldsyd => ?stsyd)
                        case hSsyd => (first | (dsimp only; (first | with_reducible exact k0 | exact k0)) | (first | with_reducible exact k0 | exact k0))
                        refine take_first 0 54 (v := ?vsyd_1) rfl rfl (by kernel_rfl) (by kernel_rfl) (by kernel_rfl) (fun _ _ _ h => h) (by rfl) ?ysyd_1 (by assumption) ?rsyd_1
                        case ysyd_1 => (intro w hSw; (try dsimp only at hSw); go_simp; (try with_reducible rfl))
                        simp only [Act.put, List.setIfInBounds_toArray, List.set_cons_zero, List.set_cons_succ]
                        refine take_first 1 55 (v := ?vsyd_2) rfl rfl (by kernel_rfl) (by kernel_rfl) (by kernel_rfl) (fun _ _ _ h => h) (by rfl) ?ysyd_2 (by assumption) ?rsyd_2
                        case ysyd_2 => (intro w hSw; (try dsimp only at hSw); go_simp; (try with_reducible rfl))
                        simp only [Act.put, List.setIfInBounds_toArray, List.set_cons_zero, List.set_cons_succ]
                        refine wpAnyH_ready (rs := [2]) (by kernel_rfl) (by simp) ?_
                        refine AllReadyH.cons (o := _) rfl (fun Ksyd_3 hKsyd_3 => ?csyd_3) ?msyd_3
                        case msyd_3 => exact AllReadyH.nil
                        go_simp
                        refine (l1In_any _ _ _ _).mono ?_; rintro e wz ⟨rfl, rfl⟩; rw [hA]
                        go_wp2_with fail
                        refine hKsyd_3.out _ _ ?ksyd_3 (fun hHeldsyd_3 => ?dsyd_3)
                        case ksyd_3 => (first | (dsimp only; (first | with_reducible exact k0 | exact k0)) | (first | with_reducible exact k0 | exact k0))
                        clear hKsyd_3 Ksyd_3
                        have hgn : ¬ yt ≤ z.tx := (by omega); clear hge
                        refine take_first 3 57 (v := ?vsyd_4) rfl rfl (by kernel_rfl) (by kernel_rfl) (by kernel_rfl) (fun _ _ _ h => h) (by rfl) ?ysyd_4 (by assumption) ?rsyd_4
                        case ysyd_4 => (intro w hSw; (try dsimp only at hSw); go_simp; (try with_reducible rfl))
                        simp only [Act.put, List.setIfInBounds_toArray, List.set_cons_zero, List.set_cons_succ]
                        refine take_first 4 58 (v := ?vsyd_5) rfl rfl (by kernel_rfl) (by kernel_rfl) (by kernel_rfl) (fun _ _ _ h => h) (by rfl) ?ysyd_5 (by assumption) ?rsyd_5
                        case ysyd_5 => (intro w hSw; (try dsimp only at hSw); go_simp; (try with_reducible rfl))
                        simp only [Act.put, List.setIfInBounds_toArray, List.set_cons_zero, List.set_cons_succ]
                        refine take_first 5 59 (v := ?vsyd_6) rfl rfl (by kernel_rfl) (by kernel_rfl) (by kernel_rfl) (fun _ _ _ h => h) (by rfl) ?ysyd_6 (by assumption) ?rsyd_6
                        case ysyd_6 => (intro w hSw; (try dsimp only at hSw); go_simp; (try with_reducible rfl))
                        simp only [Act.put, List.setIfInBounds_toArray, List.set_cons_zero, List.set_cons_succ]
                        refine take_first 6 60 (v := ?vsyd_7) rfl rfl (by kernel_rfl) (by kernel_rfl) (by kernel_rfl) (fun _ _ _ h => h) (by rfl) ?ysyd_7 (by assumption) ?rsyd_7
                        case ysyd_7 => (intro w hSw; (try dsimp only at hSw); go_simp; (try with_reducible rfl))
                        simp only [Act.put, List.setIfInBounds_toArray, List.set_cons_zero, List.set_cons_succ]
                        refine take_first 7 61 (v := ?vsyd_8) rfl rfl (by kernel_rfl) (by kernel_rfl) (by kernel_rfl) (fun _ _ _ h => h) (by rfl) ?ysyd_8 (by assumption) ?rsyd_8
                        case ysyd_8 => (intro w hSw; (try dsimp only at hSw); go_simp; (try with_reducible rfl))
                        simp only [Act.put, List.setIfInBounds_toArray, List.set_cons_zero, List.set_cons_succ]
                        refine take_first 8 62 (v := ?vsyd_9) rfl rfl (by kernel_rfl) (by kernel_rfl) (by kernel_rfl) (fun _ _ _ h => h) (by rfl) ?ysyd_9 (by assumption) ?rsyd_9
                        case ysyd_9 => (intro w hSw; (try dsimp only at hSw); go_simp; (try with_reducible rfl))
                        simp only [Act.put, List.setIfInBounds_toArray, List.set_cons_zero, List.set_cons_succ]
                        refine take_first 9 63 (v := ?vsyd_10) rfl rfl (by kernel_rfl) (by kernel_rfl) (by kernel_rfl) (fun _ _ _ h => h) (by rfl) ?ysyd_10 (by assumption) ?rsyd_10
                        case ysyd_10 => (intro w hSw; (try dsimp only at hSw); go_simp; (try with_reducible rfl))
                        simp only [Act.put, List.setIfInBounds_toArray, List.set_cons_zero, List.set_cons_succ]
                        refine take_first 10 64 (v := ?vsyd_11) rfl rfl (by kernel_rfl) (by kernel_rfl) (by kernel_rfl) (fun _ _ _ h => h) (by rfl) ?ysyd_11 (by assumption) ?rsyd_11
                        case ysyd_11 => (intro w hSw; (try dsimp only at hSw); go_simp; (try with_reducible rfl))
                        simp only [Act.put, List.setIfInBounds_toArray, List.set_cons_zero, List.set_cons_succ]
                        refine take_first 11 65 (v := ?vsyd_12) rfl rfl (by kernel_rfl) (by kernel_rfl) (by kernel_rfl) (fun _ _ _ h => h) (by rfl) ?ysyd_12 (by assumption) ?rsyd_12
                        case ysyd_12 => (intro w hSw; (try dsimp only at hSw); go_simp; (try with_reducible rfl))
                        simp only [Act.put, List.setIfInBounds_toArray, List.set_cons_zero, List.set_cons_succ]
                        refine take_first 12 66 (v := ?vsyd_13) rfl rfl (by kernel_rfl) (by kernel_rfl) (by kernel_rfl) (fun _ _ _ h => h) (by rfl) ?ysyd_13 (by assumption) ?rsyd_13
                        case ysyd_13 => (intro w hSw; (try dsimp only at hSw); go_simp; (try with_reducible rfl))
                        simp only [Act.put, List.setIfInBounds_toArray, List.set_cons_zero, List.set_cons_succ]
                        refine take_first 13 67 (v := ?vsyd_14) rfl rfl (by kernel_rfl) (by kernel_rfl) (by kernel_rfl) (fun _ _ _ h => h) (by rfl) ?ysyd_14 (by assumption) ?rsyd_14
                        case ysyd_14 => (intro w hSw; (try dsimp only at hSw); go_simp; (try with_reducible rfl))
                        simp only [Act.put, List.setIfInBounds_toArray, List.set_cons_zero, List.set_cons_succ]
                        refine take_first 14 68 (v := ?vsyd_15) rfl rfl (by kernel_rfl) (by kernel_rfl) (by kernel_rfl) (fun _ _ _ h => h) (by rfl) ?ysyd_15 (by assumption) ?rsyd_15
                        case ysyd_15 => (intro w hSw; (try dsimp only at hSw); go_simp; (try with_reducible rfl))
                        simp only [Act.put, List.setIfInBounds_toArray, List.set_cons_zero, List.set_cons_succ]
                        refine take_first 15 69 (v := ?vsyd_16) rfl rfl (by kernel_rfl) (by kernel_rfl) (by kernel_rfl) (fun _ _ _ h => h) (by rfl) ?ysyd_16 (by assumption) ?rsyd_16
                        case ysyd_16 => (intro w hSw; (try dsimp only at hSw); go_simp; (try with_reducible rfl))
                        simp only [Act.put, List.setIfInBounds_toArray, List.set_cons_zero, List.set_cons_succ]
                        refine take_first 16 70 (v := ?vsyd_17) rfl rfl (by kernel_rfl) (by kernel_rfl) (by kernel_rfl) (fun _ _ _ h => h) (by rfl) ?ysyd_17 (by assumption) ?rsyd_17
                        case ysyd_17 => (intro w hSw; (try dsimp only at hSw); go_simp; (try with_reducible rfl))
                        simp only [Act.put, List.setIfInBounds_toArray, List.set_cons_zero, List.set_cons_succ]
                        refine take_first 17 71 (v := ?vsyd_18) rfl rfl (by kernel_rfl) (by kernel_rfl) (by kernel_rfl) (fun _ _ _ h => h) (by rfl) ?ysyd_18 (by assumption) ?rsyd_18
                        case ysyd_18 => (intro w hSw; (try dsimp only at hSw); go_simp; (try with_reducible rfl))
                        simp only [Act.put, List.setIfInBounds_toArray, List.set_cons_zero, List.set_cons_succ]
                        refine take_first 18 72 (v := ?vsyd_19) rfl rfl (by kernel_rfl) (by kernel_rfl) (by kernel_rfl) (fun _ _ _ h => h) (by rfl) ?ysyd_19 (by assumption) ?rsyd_19
                        case ysyd_19 => (intro w hSw; (try dsimp only at hSw); go_simp; (try with_reducible rfl))
                        simp only [Act.put, List.setIfInBounds_toArray, List.set_cons_zero, List.set_cons_succ]
                        refine take_first 19 73 (v := ?vsyd_20) rfl rfl (by kernel_rfl) (by kernel_rfl) (by kernel_rfl) (fun _ _ _ h => h) (by rfl) ?ysyd_20 (by assumption) ?rsyd_20
                        case ysyd_20 => (intro w hSw; (try dsimp only at hSw); go_simp; (try with_reducible rfl))
                        simp only [Act.put, List.setIfInBounds_toArray, List.set_cons_zero, List.set_cons_succ]
                        refine take_first 20 74 (v := ?vsyd_21) rfl rfl (by kernel_rfl) (by kernel_rfl) (by kernel_rfl) (fun _ _ _ h => h) (by rfl) ?ysyd_21 (by assumption) ?rsyd_21
                        case ysyd_21 => (intro w hSw; (try dsimp only at hSw); go_simp; (try with_reducible rfl))
                        simp only [Act.put, List.setIfInBounds_toArray, List.set_cons_zero, List.set_cons_succ]
                        refine take_first 21 75 (v := ?vsyd_22) rfl rfl (by kernel_rfl) (by kernel_rfl) (by kernel_rfl) (fun _ _ _ h => h) (by rfl) ?ysyd_22 (by assumption) ?rsyd_22
                        case ysyd_22 => (intro w hSw; (try dsimp only at hSw); go_simp; (try with_reducible rfl))
                        simp only [Act.put, List.setIfInBounds_toArray, List.set_cons_zero, List.set_cons_succ]
                        refine take_first 22 76 (v := ?vsyd_23) rfl rfl (by kernel_rfl) (by kernel_rfl) (by kernel_rfl) (fun _ _ _ h => h) (by rfl) ?ysyd_23 (by assumption) ?rsyd_23
                        case ysyd_23 => (intro w hSw; (try dsimp only at hSw); go_simp; (try with_reducible rfl))
                        simp only [Act.put, List.setIfInBounds_toArray, List.set_cons_zero, List.set_cons_succ]
                        refine wpAnyH_ready (rs := [23]) (by kernel_rfl) (by simp) ?_
                        refine AllReadyH.cons (o := _) rfl (fun Ksyd_24 hKsyd_24 => ?csyd_24) ?msyd_24
                        case msyd_24 => exact AllReadyH.nil
                        go_simp
                        refine (l6Places_any _ _ yc (ints_row.1 (HCr.out _ HWb.out).1)).mono ?_; rintro e wc ⟨rfl, hbc⟩; rw [hC]; have HWe := Lib.hid (HWb.out.trans (hbc.mono HWb.out.size)); replace k0 := And.intro (HTp.out _ HWe.out j z HZj.out) (HAl.out _ HWe.out); clear hbc
                        go_wp2_with fail
                        refine hKsyd_24.out _ _ ?ksyd_24 (fun hHeldsyd_24 => ?dsyd_24)
                        case ksyd_24 => (first | (dsimp only; (first | with_reducible exact k0 | exact k0)) | (first | with_reducible exact k0 | exact k0))
                        clear hKsyd_24 Ksyd_24
                        refine take_first 24 78 (v := ?vsyd_25) rfl rfl (by kernel_rfl) (by kernel_rfl) (by kernel_rfl) (fun _ _ _ h => h) (by rfl) ?ysyd_25 (by assumption) ?rsyd_25
                        case ysyd_25 => (intro w hSw; (try dsimp only at hSw); go_simp; (try with_reducible rfl))
                        simp only [Act.put, List.setIfInBounds_toArray, List.set_cons_zero, List.set_cons_succ]
                        refine take_first 25 79 (v := ?vsyd_26) rfl rfl (by kernel_rfl) (by kernel_rfl) (by kernel_rfl) (fun _ _ _ h => h) (by rfl) ?ysyd_26 (by assumption) ?rsyd_26
                        case ysyd_26 => (intro w hSw; (try dsimp only at hSw); go_simp; (try with_reducible rfl))
                        simp only [Act.put, List.setIfInBounds_toArray, List.set_cons_zero, List.set_cons_succ]
                        refine take_first 26 80 (v := ?vsyd_27) rfl rfl (by kernel_rfl) (by kernel_rfl) (by kernel_rfl) (fun _ _ _ h => h) (by rfl) ?ysyd_27 (by assumption) ?rsyd_27
                        case ysyd_27 => (intro w hSw; (try dsimp only at hSw); go_simp; (try with_reducible rfl))
                        simp only [Act.put, List.setIfInBounds_toArray, List.set_cons_zero, List.set_cons_succ]
                        refine take_first 27 81 (v := ?vsyd_28) rfl rfl (by kernel_rfl) (by kernel_rfl) (by kernel_rfl) (fun _ _ _ h => h) (by rfl) ?ysyd_28 (by assumption) ?rsyd_28
                        case ysyd_28 => (intro w hSw; (try dsimp only at hSw); go_simp; (try with_reducible rfl))
                        simp only [Act.put, List.setIfInBounds_toArray, List.set_cons_zero, List.set_cons_succ]
                        refine take_first 28 82 (v := ?vsyd_29) rfl rfl (by kernel_rfl) (by kernel_rfl) (by kernel_rfl) (fun _ _ _ h => h) (by rfl) ?ysyd_29 (by assumption) ?rsyd_29
                        case ysyd_29 => (intro w hSw; (try dsimp only at hSw); go_simp; (try with_reducible rfl))
                        simp only [Act.put, List.setIfInBounds_toArray, List.set_cons_zero, List.set_cons_succ]
                        refine wpAnyH_ready (rs := [29]) (by kernel_rfl) (by simp) ?_
                        refine AllReadyH.cons (o := _) rfl (fun Ksyd_30 hKsyd_30 => ?csyd_30) ?msyd_30
                        case msyd_30 => exact AllReadyH.nil
                        go_simp
                        refine (l6Places_any _ _ yk (ints_row.1 (HCr.out _ HWe.out).2)).mono ?_; rintro e wd ⟨rfl, hbd⟩; rw [hD]; have HWf := Lib.hid (HWe.out.trans (hbd.mono HWe.out.size)); replace k0 := And.intro (HTp.out _ HWf.out j z HZj.out) (HAl.out _ HWf.out); clear hbd
                        go_wp2_with fail
                        refine hKsyd_30.out _ _ ?ksyd_30 (fun hHeldsyd_30 => ?dsyd_30)
                        case ksyd_30 => (first | (dsimp only; (first | with_reducible exact k0 | exact k0)) | (first | with_reducible exact k0 | exact k0))
                        clear hKsyd_30 Ksyd_30
                        refine take_first 30 84 (v := ?vsyd_31) rfl rfl (by kernel_rfl) (by kernel_rfl) (by kernel_rfl) (fun _ _ _ h => h) (by rfl) ?ysyd_31 (by assumption) ?rsyd_31
                        case ysyd_31 => (intro w hSw; (try dsimp only at hSw); go_simp; (try with_reducible rfl))
                        simp only [Act.put, List.setIfInBounds_toArray, List.set_cons_zero, List.set_cons_succ]
                        refine take_first 31 85 (v := ?vsyd_32) rfl rfl (by kernel_rfl) (by kernel_rfl) (by kernel_rfl) (fun _ _ _ h => h) (by rfl) ?ysyd_32 (by assumption) ?rsyd_32
                        case ysyd_32 => (intro w hSw; (try dsimp only at hSw); go_simp; (try with_reducible rfl))
                        simp only [Act.put, List.setIfInBounds_toArray, List.set_cons_zero, List.set_cons_succ]
                        refine take_first 32 86 (v := ?vsyd_33) rfl rfl (by kernel_rfl) (by kernel_rfl) (by kernel_rfl) (fun _ _ _ h => h) (by rfl) ?ysyd_33 (by assumption) ?rsyd_33
                        case ysyd_33 => (intro w hSw; (try dsimp only at hSw); go_simp; (try with_reducible rfl))
                        simp only [Act.put, List.setIfInBounds_toArray, List.set_cons_zero, List.set_cons_succ]
                        refine pass_over 33 87 rfl rfl (by kernel_rfl) (by kernel_rfl) (by kernel_rfl) (fun _ _ _ h => h) (by rfl) (by assumption) ?rsyd_34
                        simp only [Act.put, List.setIfInBounds_toArray, List.set_cons_zero, List.set_cons_succ]
                        refine pass_over 34 88 rfl rfl (by kernel_rfl) (by kernel_rfl) (by kernel_rfl) (fun _ _ _ h => h) (by rfl) (by assumption) ?rsyd_35
                        simp only [Act.put, List.setIfInBounds_toArray, List.set_cons_zero, List.set_cons_succ]
                        refine pass_over 35 89 rfl rfl (by kernel_rfl) (by kernel_rfl) (by kernel_rfl) (fun _ _ _ h => h) (by rfl) (by assumption) ?rsyd_36
                        simp only [Act.put, List.setIfInBounds_toArray, List.set_cons_zero, List.set_cons_succ]
                        refine pass_over 36 90 rfl rfl (by kernel_rfl) (by kernel_rfl) (by kernel_rfl) (fun _ _ _ h => h) (by rfl) (by assumption) ?rsyd_37
                        simp only [Act.put, List.setIfInBounds_toArray, List.set_cons_zero, List.set_cons_succ]
                        refine pass_over 37 91 rfl rfl (by kernel_rfl) (by kernel_rfl) (by kernel_rfl) (fun _ _ _ h => h) (by rfl) (by assumption) ?rsyd_38
                        simp only [Act.put, List.setIfInBounds_toArray, List.set_cons_zero, List.set_cons_succ]
                        refine pass_over 38 92 rfl rfl (by kernel_rfl) (by kernel_rfl) (by kernel_rfl) (fun _ _ _ h => h) (by rfl) (by assumption) ?rsyd_39
                        simp only [Act.put, List.setIfInBounds_toArray, List.set_cons_zero, List.set_cons_succ]
                        refine pass_over 39 93 rfl rfl (by kernel_rfl) (by kernel_rfl) (by kernel_rfl) (fun _ _ _ h => h) (by rfl) (by assumption) ?rsyd_40
                        simp only [Act.put, List.setIfInBounds_toArray, List.set_cons_zero, List.set_cons_succ]
                        refine pass_over 40 94 rfl rfl (by kernel_rfl) (by kernel_rfl) (by kernel_rfl) (fun _ _ _ h => h) (by rfl) (by assumption) ?rsyd_41
                        simp only [Act.put, List.setIfInBounds_toArray, List.set_cons_zero, List.set_cons_succ]
                        refine pass_over 41 95 rfl rfl (by kernel_rfl) (by kernel_rfl) (by kernel_rfl) (fun _ _ _ h => h) (by rfl) (by assumption) ?rsyd_42
                        simp only [Act.put, List.setIfInBounds_toArray, List.set_cons_zero, List.set_cons_succ]
                        refine pass_over 42 96 rfl rfl (by kernel_rfl) (by kernel_rfl) (by kernel_rfl) (fun _ _ _ h => h) (by rfl) (by assumption) ?rsyd_43
                        simp only [Act.put, List.setIfInBounds_toArray, List.set_cons_zero, List.set_cons_succ]
                        refine take_first 43 97 (v := ?vsyd_44) rfl rfl (by kernel_rfl) (by kernel_rfl) (by kernel_rfl) (fun _ _ _ h => h) (by rfl) ?ysyd_44 (by assumption) ?rsyd_44
                        case ysyd_44 => (intro w hSw; (try dsimp only at hSw); go_simp; (try with_reducible rfl))
                        simp only [Act.put, List.setIfInBounds_toArray, List.set_cons_zero, List.set_cons_succ]
                        refine wpAnyH_done (by kernel_rfl) ?esyd _
                        clear k0
                        have HBz := Lib.hid (HYr.out _ (HGo.out _ HWf.out)).2
                        go_wp2
                        go_ret
                        exact ⟨ret_bool HNo.out.symm, HBz.out⟩
                      | true =>
                        cases hl : (lastK x.disk.notes yt == 2) with
                        | true =>
                          cases yy with
                          | false =>
                            have HNo := Lib.hid (show froB x = false from fro_false (.inr (.inr (.inr (by rw [HI.out, HW.out, show actB ⟨yt, yo, false, yc, yk⟩ (lastK x.disk.notes yt == 2) = false by (rw [HV.out, hl]; simp)]; rfl)))))
                            refine wp_region_held_drew (S := (fun w' => w'.cell? ⟨bw, ow + j * 11, none⟩ = some (.int .i64 z.tx) ∧ w'.cell? ⟨w.heap.size, 2, none⟩ = some (.slice (some ⟨bw, ow, none⟩) x.way.length cw) ∧ w'.cell? ⟨w.heap.size, 0, none⟩ = some (.slice An x.disk.notes.length cn) ∧ w'.cell? ⟨wr.heap.size, 0, none⟩ = some (.int .i64 yt) ∧ w'.cell? ⟨wr.heap.size, 1, none⟩ = some (.int .i64 yo.kind) ∧ w'.cell? ⟨wr.heap.size, 2, none⟩ = some (.int .i64 yo.who) ∧ w'.cell? ⟨wr.heap.size, 3, none⟩ = some (.int .i64 yo.inn) ∧ w'.cell? ⟨wr.heap.size, 4, none⟩ = some (.int .i64 yo.code) ∧ w'.cell? ⟨wr.heap.size, 5, none⟩ = some (.int .i64 yo.sec) ∧ w'.cell? ⟨wr.heap.size, 6, none⟩ = some (.int .i64 yo.fam) ∧ w'.cell? ⟨wr.heap.size, 7, none⟩ = some (.int .i64 yo.gen) ∧ w'.cell? ⟨wr.heap.size, 8, none⟩ = some (.bool false) ∧ w'.cell? ⟨wr.heap.size, 9, none⟩ = some (.slice Ac yc.length cc) ∧ w'.cell? ⟨wr.heap.size, 10, none⟩ = some (.slice Ak yk.length ck))) (by kernel_rfl) ?hSsye0 (fun hHeldsye0 => ?stsye0)
                            case hSsye0 => (first | (dsimp only; (first | with_reducible exact k0 | exact k0)) | (first | with_reducible exact k0 | exact k0))
                            refine take_first 0 54 (v := ?vsye0_1) rfl rfl (by kernel_rfl) (by kernel_rfl) (by kernel_rfl) (fun _ _ _ h => h) (by rfl) ?ysye0_1 (by assumption) ?rsye0_1
                            case ysye0_1 => (intro w hSw; (try dsimp only at hSw); go_simp; (try with_reducible rfl))
                            simp only [Act.put, List.setIfInBounds_toArray, List.set_cons_zero, List.set_cons_succ]
                            refine take_first 1 55 (v := ?vsye0_2) rfl rfl (by kernel_rfl) (by kernel_rfl) (by kernel_rfl) (fun _ _ _ h => h) (by rfl) ?ysye0_2 (by assumption) ?rsye0_2
                            case ysye0_2 => (intro w hSw; (try dsimp only at hSw); go_simp; (try with_reducible rfl))
                            simp only [Act.put, List.setIfInBounds_toArray, List.set_cons_zero, List.set_cons_succ]
                            refine wpAnyH_ready (rs := [2]) (by kernel_rfl) (by simp) ?_
                            refine AllReadyH.cons (o := _) rfl (fun Ksye0_3 hKsye0_3 => ?csye0_3) ?msye0_3
                            case msye0_3 => exact AllReadyH.nil
                            go_simp
                            refine (l1In_any _ _ _ _).mono ?_; rintro e wz ⟨rfl, rfl⟩; rw [hA]
                            go_wp2_with fail
                            refine hKsye0_3.out _ _ ?ksye0_3 (fun hHeldsye0_3 => ?dsye0_3)
                            case ksye0_3 => (first | (dsimp only; (first | with_reducible exact k0 | exact k0)) | (first | with_reducible exact k0 | exact k0))
                            clear hKsye0_3 Ksye0_3
                            have hgn : ¬ yt ≤ z.tx := (by omega); clear hge
                            refine take_first 3 57 (v := ?vsye0_4) rfl rfl (by kernel_rfl) (by kernel_rfl) (by kernel_rfl) (fun _ _ _ h => h) (by rfl) ?ysye0_4 (by assumption) ?rsye0_4
                            case ysye0_4 => (intro w hSw; (try dsimp only at hSw); go_simp; (try with_reducible rfl))
                            simp only [Act.put, List.setIfInBounds_toArray, List.set_cons_zero, List.set_cons_succ]
                            refine take_first 4 58 (v := ?vsye0_5) rfl rfl (by kernel_rfl) (by kernel_rfl) (by kernel_rfl) (fun _ _ _ h => h) (by rfl) ?ysye0_5 (by assumption) ?rsye0_5
                            case ysye0_5 => (intro w hSw; (try dsimp only at hSw); go_simp; (try with_reducible rfl))
                            simp only [Act.put, List.setIfInBounds_toArray, List.set_cons_zero, List.set_cons_succ]
                            refine take_first 5 59 (v := ?vsye0_6) rfl rfl (by kernel_rfl) (by kernel_rfl) (by kernel_rfl) (fun _ _ _ h => h) (by rfl) ?ysye0_6 (by assumption) ?rsye0_6
                            case ysye0_6 => (intro w hSw; (try dsimp only at hSw); go_simp; (try with_reducible rfl))
                            simp only [Act.put, List.setIfInBounds_toArray, List.set_cons_zero, List.set_cons_succ]
                            refine take_first 6 60 (v := ?vsye0_7) rfl rfl (by kernel_rfl) (by kernel_rfl) (by kernel_rfl) (fun _ _ _ h => h) (by rfl) ?ysye0_7 (by assumption) ?rsye0_7
                            case ysye0_7 => (intro w hSw; (try dsimp only at hSw); go_simp; (try with_reducible rfl))
                            simp only [Act.put, List.setIfInBounds_toArray, List.set_cons_zero, List.set_cons_succ]
                            refine take_first 7 61 (v := ?vsye0_8) rfl rfl (by kernel_rfl) (by kernel_rfl) (by kernel_rfl) (fun _ _ _ h => h) (by rfl) ?ysye0_8 (by assumption) ?rsye0_8
                            case ysye0_8 => (intro w hSw; (try dsimp only at hSw); go_simp; (try with_reducible rfl))
                            simp only [Act.put, List.setIfInBounds_toArray, List.set_cons_zero, List.set_cons_succ]
                            refine take_first 8 62 (v := ?vsye0_9) rfl rfl (by kernel_rfl) (by kernel_rfl) (by kernel_rfl) (fun _ _ _ h => h) (by rfl) ?ysye0_9 (by assumption) ?rsye0_9
                            case ysye0_9 => (intro w hSw; (try dsimp only at hSw); go_simp; (try with_reducible rfl))
                            simp only [Act.put, List.setIfInBounds_toArray, List.set_cons_zero, List.set_cons_succ]
                            refine take_first 9 63 (v := ?vsye0_10) rfl rfl (by kernel_rfl) (by kernel_rfl) (by kernel_rfl) (fun _ _ _ h => h) (by rfl) ?ysye0_10 (by assumption) ?rsye0_10
                            case ysye0_10 => (intro w hSw; (try dsimp only at hSw); go_simp; (try with_reducible rfl))
                            simp only [Act.put, List.setIfInBounds_toArray, List.set_cons_zero, List.set_cons_succ]
                            refine take_first 10 64 (v := ?vsye0_11) rfl rfl (by kernel_rfl) (by kernel_rfl) (by kernel_rfl) (fun _ _ _ h => h) (by rfl) ?ysye0_11 (by assumption) ?rsye0_11
                            case ysye0_11 => (intro w hSw; (try dsimp only at hSw); go_simp; (try with_reducible rfl))
                            simp only [Act.put, List.setIfInBounds_toArray, List.set_cons_zero, List.set_cons_succ]
                            refine take_first 11 65 (v := ?vsye0_12) rfl rfl (by kernel_rfl) (by kernel_rfl) (by kernel_rfl) (fun _ _ _ h => h) (by rfl) ?ysye0_12 (by assumption) ?rsye0_12
                            case ysye0_12 => (intro w hSw; (try dsimp only at hSw); go_simp; (try with_reducible rfl))
                            simp only [Act.put, List.setIfInBounds_toArray, List.set_cons_zero, List.set_cons_succ]
                            refine take_first 12 66 (v := ?vsye0_13) rfl rfl (by kernel_rfl) (by kernel_rfl) (by kernel_rfl) (fun _ _ _ h => h) (by rfl) ?ysye0_13 (by assumption) ?rsye0_13
                            case ysye0_13 => (intro w hSw; (try dsimp only at hSw); go_simp; (try with_reducible rfl))
                            simp only [Act.put, List.setIfInBounds_toArray, List.set_cons_zero, List.set_cons_succ]
                            refine take_first 13 67 (v := ?vsye0_14) rfl rfl (by kernel_rfl) (by kernel_rfl) (by kernel_rfl) (fun _ _ _ h => h) (by rfl) ?ysye0_14 (by assumption) ?rsye0_14
                            case ysye0_14 => (intro w hSw; (try dsimp only at hSw); go_simp; (try with_reducible rfl))
                            simp only [Act.put, List.setIfInBounds_toArray, List.set_cons_zero, List.set_cons_succ]
                            refine take_first 14 68 (v := ?vsye0_15) rfl rfl (by kernel_rfl) (by kernel_rfl) (by kernel_rfl) (fun _ _ _ h => h) (by rfl) ?ysye0_15 (by assumption) ?rsye0_15
                            case ysye0_15 => (intro w hSw; (try dsimp only at hSw); go_simp; (try with_reducible rfl))
                            simp only [Act.put, List.setIfInBounds_toArray, List.set_cons_zero, List.set_cons_succ]
                            refine take_first 15 69 (v := ?vsye0_16) rfl rfl (by kernel_rfl) (by kernel_rfl) (by kernel_rfl) (fun _ _ _ h => h) (by rfl) ?ysye0_16 (by assumption) ?rsye0_16
                            case ysye0_16 => (intro w hSw; (try dsimp only at hSw); go_simp; (try with_reducible rfl))
                            simp only [Act.put, List.setIfInBounds_toArray, List.set_cons_zero, List.set_cons_succ]
                            refine take_first 16 70 (v := ?vsye0_17) rfl rfl (by kernel_rfl) (by kernel_rfl) (by kernel_rfl) (fun _ _ _ h => h) (by rfl) ?ysye0_17 (by assumption) ?rsye0_17
                            case ysye0_17 => (intro w hSw; (try dsimp only at hSw); go_simp; (try with_reducible rfl))
                            simp only [Act.put, List.setIfInBounds_toArray, List.set_cons_zero, List.set_cons_succ]
                            refine take_first 17 71 (v := ?vsye0_18) rfl rfl (by kernel_rfl) (by kernel_rfl) (by kernel_rfl) (fun _ _ _ h => h) (by rfl) ?ysye0_18 (by assumption) ?rsye0_18
                            case ysye0_18 => (intro w hSw; (try dsimp only at hSw); go_simp; (try with_reducible rfl))
                            simp only [Act.put, List.setIfInBounds_toArray, List.set_cons_zero, List.set_cons_succ]
                            refine take_first 18 72 (v := ?vsye0_19) rfl rfl (by kernel_rfl) (by kernel_rfl) (by kernel_rfl) (fun _ _ _ h => h) (by rfl) ?ysye0_19 (by assumption) ?rsye0_19
                            case ysye0_19 => (intro w hSw; (try dsimp only at hSw); go_simp; (try with_reducible rfl))
                            simp only [Act.put, List.setIfInBounds_toArray, List.set_cons_zero, List.set_cons_succ]
                            refine take_first 19 73 (v := ?vsye0_20) rfl rfl (by kernel_rfl) (by kernel_rfl) (by kernel_rfl) (fun _ _ _ h => h) (by rfl) ?ysye0_20 (by assumption) ?rsye0_20
                            case ysye0_20 => (intro w hSw; (try dsimp only at hSw); go_simp; (try with_reducible rfl))
                            simp only [Act.put, List.setIfInBounds_toArray, List.set_cons_zero, List.set_cons_succ]
                            refine take_first 20 74 (v := ?vsye0_21) rfl rfl (by kernel_rfl) (by kernel_rfl) (by kernel_rfl) (fun _ _ _ h => h) (by rfl) ?ysye0_21 (by assumption) ?rsye0_21
                            case ysye0_21 => (intro w hSw; (try dsimp only at hSw); go_simp; (try with_reducible rfl))
                            simp only [Act.put, List.setIfInBounds_toArray, List.set_cons_zero, List.set_cons_succ]
                            refine take_first 21 75 (v := ?vsye0_22) rfl rfl (by kernel_rfl) (by kernel_rfl) (by kernel_rfl) (fun _ _ _ h => h) (by rfl) ?ysye0_22 (by assumption) ?rsye0_22
                            case ysye0_22 => (intro w hSw; (try dsimp only at hSw); go_simp; (try with_reducible rfl))
                            simp only [Act.put, List.setIfInBounds_toArray, List.set_cons_zero, List.set_cons_succ]
                            refine take_first 22 76 (v := ?vsye0_23) rfl rfl (by kernel_rfl) (by kernel_rfl) (by kernel_rfl) (fun _ _ _ h => h) (by rfl) ?ysye0_23 (by assumption) ?rsye0_23
                            case ysye0_23 => (intro w hSw; (try dsimp only at hSw); go_simp; (try with_reducible rfl))
                            simp only [Act.put, List.setIfInBounds_toArray, List.set_cons_zero, List.set_cons_succ]
                            refine wpAnyH_ready (rs := [23]) (by kernel_rfl) (by simp) ?_
                            refine AllReadyH.cons (o := _) rfl (fun Ksye0_24 hKsye0_24 => ?csye0_24) ?msye0_24
                            case msye0_24 => exact AllReadyH.nil
                            go_simp
                            refine (l6Places_any _ _ yc (ints_row.1 (HCr.out _ HWb.out).1)).mono ?_; rintro e wc ⟨rfl, hbc⟩; rw [hC]; have HWe := Lib.hid (HWb.out.trans (hbc.mono HWb.out.size)); replace k0 := And.intro (HTp.out _ HWe.out j z HZj.out) (HAl.out _ HWe.out); clear hbc
                            go_wp2_with fail
                            refine hKsye0_24.out _ _ ?ksye0_24 (fun hHeldsye0_24 => ?dsye0_24)
                            case ksye0_24 => (first | (dsimp only; (first | with_reducible exact k0 | exact k0)) | (first | with_reducible exact k0 | exact k0))
                            clear hKsye0_24 Ksye0_24
                            refine take_first 24 78 (v := ?vsye0_25) rfl rfl (by kernel_rfl) (by kernel_rfl) (by kernel_rfl) (fun _ _ _ h => h) (by rfl) ?ysye0_25 (by assumption) ?rsye0_25
                            case ysye0_25 => (intro w hSw; (try dsimp only at hSw); go_simp; (try with_reducible rfl))
                            simp only [Act.put, List.setIfInBounds_toArray, List.set_cons_zero, List.set_cons_succ]
                            refine take_first 25 79 (v := ?vsye0_26) rfl rfl (by kernel_rfl) (by kernel_rfl) (by kernel_rfl) (fun _ _ _ h => h) (by rfl) ?ysye0_26 (by assumption) ?rsye0_26
                            case ysye0_26 => (intro w hSw; (try dsimp only at hSw); go_simp; (try with_reducible rfl))
                            simp only [Act.put, List.setIfInBounds_toArray, List.set_cons_zero, List.set_cons_succ]
                            refine take_first 26 80 (v := ?vsye0_27) rfl rfl (by kernel_rfl) (by kernel_rfl) (by kernel_rfl) (fun _ _ _ h => h) (by rfl) ?ysye0_27 (by assumption) ?rsye0_27
                            case ysye0_27 => (intro w hSw; (try dsimp only at hSw); go_simp; (try with_reducible rfl))
                            simp only [Act.put, List.setIfInBounds_toArray, List.set_cons_zero, List.set_cons_succ]
                            refine take_first 27 81 (v := ?vsye0_28) rfl rfl (by kernel_rfl) (by kernel_rfl) (by kernel_rfl) (fun _ _ _ h => h) (by rfl) ?ysye0_28 (by assumption) ?rsye0_28
                            case ysye0_28 => (intro w hSw; (try dsimp only at hSw); go_simp; (try with_reducible rfl))
                            simp only [Act.put, List.setIfInBounds_toArray, List.set_cons_zero, List.set_cons_succ]
                            refine take_first 28 82 (v := ?vsye0_29) rfl rfl (by kernel_rfl) (by kernel_rfl) (by kernel_rfl) (fun _ _ _ h => h) (by rfl) ?ysye0_29 (by assumption) ?rsye0_29
                            case ysye0_29 => (intro w hSw; (try dsimp only at hSw); go_simp; (try with_reducible rfl))
                            simp only [Act.put, List.setIfInBounds_toArray, List.set_cons_zero, List.set_cons_succ]
                            refine wpAnyH_ready (rs := [29]) (by kernel_rfl) (by simp) ?_
                            refine AllReadyH.cons (o := _) rfl (fun Ksye0_30 hKsye0_30 => ?csye0_30) ?msye0_30
                            case msye0_30 => exact AllReadyH.nil
                            go_simp
                            refine (l6Places_any _ _ yk (ints_row.1 (HCr.out _ HWe.out).2)).mono ?_; rintro e wd ⟨rfl, hbd⟩; rw [hD]; have HWf := Lib.hid (HWe.out.trans (hbd.mono HWe.out.size)); replace k0 := And.intro (HTp.out _ HWf.out j z HZj.out) (HAl.out _ HWf.out); clear hbd
                            go_wp2_with fail
                            refine hKsye0_30.out _ _ ?ksye0_30 (fun hHeldsye0_30 => ?dsye0_30)
                            case ksye0_30 => (first | (dsimp only; (first | with_reducible exact k0 | exact k0)) | (first | with_reducible exact k0 | exact k0))
                            clear hKsye0_30 Ksye0_30
                            refine take_first 30 84 (v := ?vsye0_31) rfl rfl (by kernel_rfl) (by kernel_rfl) (by kernel_rfl) (fun _ _ _ h => h) (by rfl) ?ysye0_31 (by assumption) ?rsye0_31
                            case ysye0_31 => (intro w hSw; (try dsimp only at hSw); go_simp; (try with_reducible rfl))
                            simp only [Act.put, List.setIfInBounds_toArray, List.set_cons_zero, List.set_cons_succ]
                            refine take_first 31 85 (v := ?vsye0_32) rfl rfl (by kernel_rfl) (by kernel_rfl) (by kernel_rfl) (fun _ _ _ h => h) (by rfl) ?ysye0_32 (by assumption) ?rsye0_32
                            case ysye0_32 => (intro w hSw; (try dsimp only at hSw); go_simp; (try with_reducible rfl))
                            simp only [Act.put, List.setIfInBounds_toArray, List.set_cons_zero, List.set_cons_succ]
                            refine take_first 32 86 (v := ?vsye0_33) rfl rfl (by kernel_rfl) (by kernel_rfl) (by kernel_rfl) (fun _ _ _ h => h) (by rfl) ?ysye0_33 (by assumption) ?rsye0_33
                            case ysye0_33 => (intro w hSw; (try dsimp only at hSw); go_simp; (try with_reducible rfl))
                            simp only [Act.put, List.setIfInBounds_toArray, List.set_cons_zero, List.set_cons_succ]
                            refine take_first 33 87 (v := ?vsye0_34) rfl rfl (by kernel_rfl) (by kernel_rfl) (by kernel_rfl) (fun _ _ _ h => h) (by rfl) ?ysye0_34 (by assumption) ?rsye0_34
                            case ysye0_34 => (intro w hSw; (try dsimp only at hSw); go_simp; (try with_reducible rfl))
                            simp only [Act.put, List.setIfInBounds_toArray, List.set_cons_zero, List.set_cons_succ]
                            refine take_first 34 88 (v := ?vsye0_35) rfl rfl (by kernel_rfl) (by kernel_rfl) (by kernel_rfl) (fun _ _ _ h => h) (by rfl) ?ysye0_35 (by assumption) ?rsye0_35
                            case ysye0_35 => (intro w hSw; (try dsimp only at hSw); go_simp; (try with_reducible rfl))
                            simp only [Act.put, List.setIfInBounds_toArray, List.set_cons_zero, List.set_cons_succ]
                            refine take_first 35 89 (v := ?vsye0_36) rfl rfl (by kernel_rfl) (by kernel_rfl) (by kernel_rfl) (fun _ _ _ h => h) (by rfl) ?ysye0_36 (by assumption) ?rsye0_36
                            case ysye0_36 => (intro w hSw; (try dsimp only at hSw); go_simp; (try with_reducible rfl))
                            simp only [Act.put, List.setIfInBounds_toArray, List.set_cons_zero, List.set_cons_succ]
                            refine take_first 36 90 (v := ?vsye0_37) rfl rfl (by kernel_rfl) (by kernel_rfl) (by kernel_rfl) (fun _ _ _ h => h) (by rfl) ?ysye0_37 (by assumption) ?rsye0_37
                            case ysye0_37 => (intro w hSw; (try dsimp only at hSw); go_simp; (try with_reducible rfl))
                            simp only [Act.put, List.setIfInBounds_toArray, List.set_cons_zero, List.set_cons_succ]
                            refine take_first 37 91 (v := ?vsye0_38) rfl rfl (by kernel_rfl) (by kernel_rfl) (by kernel_rfl) (fun _ _ _ h => h) (by rfl) ?ysye0_38 (by assumption) ?rsye0_38
                            case ysye0_38 => (intro w hSw; (try dsimp only at hSw); go_simp; (try with_reducible rfl))
                            simp only [Act.put, List.setIfInBounds_toArray, List.set_cons_zero, List.set_cons_succ]
                            refine take_first 38 92 (v := ?vsye0_39) rfl rfl (by kernel_rfl) (by kernel_rfl) (by kernel_rfl) (fun _ _ _ h => h) (by rfl) ?ysye0_39 (by assumption) ?rsye0_39
                            case ysye0_39 => (intro w hSw; (try dsimp only at hSw); go_simp; (try with_reducible rfl))
                            simp only [Act.put, List.setIfInBounds_toArray, List.set_cons_zero, List.set_cons_succ]
                            refine take_first 39 93 (v := ?vsye0_40) rfl rfl (by kernel_rfl) (by kernel_rfl) (by kernel_rfl) (fun _ _ _ h => h) (by rfl) ?ysye0_40 (by assumption) ?rsye0_40
                            case ysye0_40 => (intro w hSw; (try dsimp only at hSw); go_simp; (try with_reducible rfl))
                            simp only [Act.put, List.setIfInBounds_toArray, List.set_cons_zero, List.set_cons_succ]
                            refine wpAnyH_ready (rs := [40]) (by kernel_rfl) (by simp) ?_
                            refine AllReadyH.cons (o := _) rfl (fun Ksye0_41 hKsye0_41 => ?csye0_41) ?msye0_41
                            case msye0_41 => exact AllReadyH.nil
                            go_simp
                            refine (l2Of_any _ _ _ x.disk.notes yt (HNr.out _ (HGo.out _ HWf.out))).mono ?_; rintro e we ⟨rfl, rfl⟩
                            go_wp2_with fail
                            refine hKsye0_41.out _ _ ?ksye0_41 (fun hHeldsye0_41 => ?dsye0_41)
                            case ksye0_41 => (first | (dsimp only; (first | with_reducible exact k0 | exact k0)) | (first | with_reducible exact k0 | exact k0))
                            clear hKsye0_41 Ksye0_41
                            refine take_first 41 95 (v := ?vsye0_42) rfl rfl (by kernel_rfl) (by kernel_rfl) (by kernel_rfl) (fun _ _ _ h => h) (by rfl) ?ysye0_42 (by assumption) ?rsye0_42
                            case ysye0_42 => (intro w hSw; (try dsimp only at hSw); go_simp; (try with_reducible rfl))
                            simp only [Act.put, List.setIfInBounds_toArray, List.set_cons_zero, List.set_cons_succ]
                            refine take_first 42 96 (v := ?vsye0_43) rfl rfl (by kernel_rfl) (by kernel_rfl) (by kernel_rfl) (fun _ _ _ h => h) (by rfl) ?ysye0_43 (by assumption) ?rsye0_43
                            case ysye0_43 => (intro w hSw; (try dsimp only at hSw); go_simp; (try with_reducible rfl))
                            simp only [Act.put, List.setIfInBounds_toArray, List.set_cons_zero, List.set_cons_succ]
                            refine take_first 43 97 (v := ?vsye0_44) rfl rfl (by kernel_rfl) (by kernel_rfl) (by kernel_rfl) (fun _ _ _ h => h) (by rfl) ?ysye0_44 (by assumption) ?rsye0_44
                            case ysye0_44 => (intro w hSw; (try dsimp only at hSw); go_simp; (try with_reducible rfl))
                            simp only [Act.put, List.setIfInBounds_toArray, List.set_cons_zero, List.set_cons_succ]
                            refine wpAnyH_done (by kernel_rfl) ?esye0 _
                            clear k0
                            have HBz := Lib.hid (HYr.out _ (HGo.out _ HWf.out)).2
                            go_wp2
                            go_ret
                            exact ⟨ret_bool HNo.out.symm, HBz.out⟩
                          | true =>
                            have ha : actB ⟨yt, yo, true, yc, yk⟩ (lastK x.disk.notes yt == 2) = true := by rw [HV.out, hl, hA, hC, hD]; rfl
                            have HSt := Lib.hid (show wayB x.disk.notes (-1) x.way = wayB x.disk.notes (pvT x.way (k + 1)) (x.way.drop (k + 1)) by
                              rw [HI.out, HW.out, ha, HPv.out, show decide (z.tx < yt) = true by simp; omega]; rfl)
                            clear ha
                            refine wp_region_held_drew (S := (fun w' => w'.cell? ⟨bw, ow + j * 11, none⟩ = some (.int .i64 z.tx) ∧ w'.cell? ⟨w.heap.size, 2, none⟩ = some (.slice (some ⟨bw, ow, none⟩) x.way.length cw) ∧ w'.cell? ⟨w.heap.size, 0, none⟩ = some (.slice An x.disk.notes.length cn) ∧ w'.cell? ⟨wr.heap.size, 0, none⟩ = some (.int .i64 yt) ∧ w'.cell? ⟨wr.heap.size, 1, none⟩ = some (.int .i64 yo.kind) ∧ w'.cell? ⟨wr.heap.size, 2, none⟩ = some (.int .i64 yo.who) ∧ w'.cell? ⟨wr.heap.size, 3, none⟩ = some (.int .i64 yo.inn) ∧ w'.cell? ⟨wr.heap.size, 4, none⟩ = some (.int .i64 yo.code) ∧ w'.cell? ⟨wr.heap.size, 5, none⟩ = some (.int .i64 yo.sec) ∧ w'.cell? ⟨wr.heap.size, 6, none⟩ = some (.int .i64 yo.fam) ∧ w'.cell? ⟨wr.heap.size, 7, none⟩ = some (.int .i64 yo.gen) ∧ w'.cell? ⟨wr.heap.size, 8, none⟩ = some (.bool true) ∧ w'.cell? ⟨wr.heap.size, 9, none⟩ = some (.slice Ac yc.length cc) ∧ w'.cell? ⟨wr.heap.size, 10, none⟩ = some (.slice Ak yk.length ck))) (by kernel_rfl) ?hSsyf1 (fun hHeldsyf1 => ?stsyf1)
                            case hSsyf1 => (first | (dsimp only; (first | with_reducible exact k0 | exact k0)) | (first | with_reducible exact k0 | exact k0))
                            refine take_first 0 54 (v := ?vsyf1_1) rfl rfl (by kernel_rfl) (by kernel_rfl) (by kernel_rfl) (fun _ _ _ h => h) (by rfl) ?ysyf1_1 (by assumption) ?rsyf1_1
                            case ysyf1_1 => (intro w hSw; (try dsimp only at hSw); go_simp; (try with_reducible rfl))
                            simp only [Act.put, List.setIfInBounds_toArray, List.set_cons_zero, List.set_cons_succ]
                            refine take_first 1 55 (v := ?vsyf1_2) rfl rfl (by kernel_rfl) (by kernel_rfl) (by kernel_rfl) (fun _ _ _ h => h) (by rfl) ?ysyf1_2 (by assumption) ?rsyf1_2
                            case ysyf1_2 => (intro w hSw; (try dsimp only at hSw); go_simp; (try with_reducible rfl))
                            simp only [Act.put, List.setIfInBounds_toArray, List.set_cons_zero, List.set_cons_succ]
                            refine wpAnyH_ready (rs := [2]) (by kernel_rfl) (by simp) ?_
                            refine AllReadyH.cons (o := _) rfl (fun Ksyf1_3 hKsyf1_3 => ?csyf1_3) ?msyf1_3
                            case msyf1_3 => exact AllReadyH.nil
                            go_simp
                            refine (l1In_any _ _ _ _).mono ?_; rintro e wz ⟨rfl, rfl⟩; rw [hA]
                            go_wp2_with fail
                            refine hKsyf1_3.out _ _ ?ksyf1_3 (fun hHeldsyf1_3 => ?dsyf1_3)
                            case ksyf1_3 => (first | (dsimp only; (first | with_reducible exact k0 | exact k0)) | (first | with_reducible exact k0 | exact k0))
                            clear hKsyf1_3 Ksyf1_3
                            have hgn : ¬ yt ≤ z.tx := (by omega); clear hge
                            refine take_first 3 57 (v := ?vsyf1_4) rfl rfl (by kernel_rfl) (by kernel_rfl) (by kernel_rfl) (fun _ _ _ h => h) (by rfl) ?ysyf1_4 (by assumption) ?rsyf1_4
                            case ysyf1_4 => (intro w hSw; (try dsimp only at hSw); go_simp; (try with_reducible rfl))
                            simp only [Act.put, List.setIfInBounds_toArray, List.set_cons_zero, List.set_cons_succ]
                            refine take_first 4 58 (v := ?vsyf1_5) rfl rfl (by kernel_rfl) (by kernel_rfl) (by kernel_rfl) (fun _ _ _ h => h) (by rfl) ?ysyf1_5 (by assumption) ?rsyf1_5
                            case ysyf1_5 => (intro w hSw; (try dsimp only at hSw); go_simp; (try with_reducible rfl))
                            simp only [Act.put, List.setIfInBounds_toArray, List.set_cons_zero, List.set_cons_succ]
                            refine take_first 5 59 (v := ?vsyf1_6) rfl rfl (by kernel_rfl) (by kernel_rfl) (by kernel_rfl) (fun _ _ _ h => h) (by rfl) ?ysyf1_6 (by assumption) ?rsyf1_6
                            case ysyf1_6 => (intro w hSw; (try dsimp only at hSw); go_simp; (try with_reducible rfl))
                            simp only [Act.put, List.setIfInBounds_toArray, List.set_cons_zero, List.set_cons_succ]
                            refine take_first 6 60 (v := ?vsyf1_7) rfl rfl (by kernel_rfl) (by kernel_rfl) (by kernel_rfl) (fun _ _ _ h => h) (by rfl) ?ysyf1_7 (by assumption) ?rsyf1_7
                            case ysyf1_7 => (intro w hSw; (try dsimp only at hSw); go_simp; (try with_reducible rfl))
                            simp only [Act.put, List.setIfInBounds_toArray, List.set_cons_zero, List.set_cons_succ]
                            refine take_first 7 61 (v := ?vsyf1_8) rfl rfl (by kernel_rfl) (by kernel_rfl) (by kernel_rfl) (fun _ _ _ h => h) (by rfl) ?ysyf1_8 (by assumption) ?rsyf1_8
                            case ysyf1_8 => (intro w hSw; (try dsimp only at hSw); go_simp; (try with_reducible rfl))
                            simp only [Act.put, List.setIfInBounds_toArray, List.set_cons_zero, List.set_cons_succ]
                            refine take_first 8 62 (v := ?vsyf1_9) rfl rfl (by kernel_rfl) (by kernel_rfl) (by kernel_rfl) (fun _ _ _ h => h) (by rfl) ?ysyf1_9 (by assumption) ?rsyf1_9
                            case ysyf1_9 => (intro w hSw; (try dsimp only at hSw); go_simp; (try with_reducible rfl))
                            simp only [Act.put, List.setIfInBounds_toArray, List.set_cons_zero, List.set_cons_succ]
                            refine take_first 9 63 (v := ?vsyf1_10) rfl rfl (by kernel_rfl) (by kernel_rfl) (by kernel_rfl) (fun _ _ _ h => h) (by rfl) ?ysyf1_10 (by assumption) ?rsyf1_10
                            case ysyf1_10 => (intro w hSw; (try dsimp only at hSw); go_simp; (try with_reducible rfl))
                            simp only [Act.put, List.setIfInBounds_toArray, List.set_cons_zero, List.set_cons_succ]
                            refine take_first 10 64 (v := ?vsyf1_11) rfl rfl (by kernel_rfl) (by kernel_rfl) (by kernel_rfl) (fun _ _ _ h => h) (by rfl) ?ysyf1_11 (by assumption) ?rsyf1_11
                            case ysyf1_11 => (intro w hSw; (try dsimp only at hSw); go_simp; (try with_reducible rfl))
                            simp only [Act.put, List.setIfInBounds_toArray, List.set_cons_zero, List.set_cons_succ]
                            refine take_first 11 65 (v := ?vsyf1_12) rfl rfl (by kernel_rfl) (by kernel_rfl) (by kernel_rfl) (fun _ _ _ h => h) (by rfl) ?ysyf1_12 (by assumption) ?rsyf1_12
                            case ysyf1_12 => (intro w hSw; (try dsimp only at hSw); go_simp; (try with_reducible rfl))
                            simp only [Act.put, List.setIfInBounds_toArray, List.set_cons_zero, List.set_cons_succ]
                            refine take_first 12 66 (v := ?vsyf1_13) rfl rfl (by kernel_rfl) (by kernel_rfl) (by kernel_rfl) (fun _ _ _ h => h) (by rfl) ?ysyf1_13 (by assumption) ?rsyf1_13
                            case ysyf1_13 => (intro w hSw; (try dsimp only at hSw); go_simp; (try with_reducible rfl))
                            simp only [Act.put, List.setIfInBounds_toArray, List.set_cons_zero, List.set_cons_succ]
                            refine take_first 13 67 (v := ?vsyf1_14) rfl rfl (by kernel_rfl) (by kernel_rfl) (by kernel_rfl) (fun _ _ _ h => h) (by rfl) ?ysyf1_14 (by assumption) ?rsyf1_14
                            case ysyf1_14 => (intro w hSw; (try dsimp only at hSw); go_simp; (try with_reducible rfl))
                            simp only [Act.put, List.setIfInBounds_toArray, List.set_cons_zero, List.set_cons_succ]
                            refine take_first 14 68 (v := ?vsyf1_15) rfl rfl (by kernel_rfl) (by kernel_rfl) (by kernel_rfl) (fun _ _ _ h => h) (by rfl) ?ysyf1_15 (by assumption) ?rsyf1_15
                            case ysyf1_15 => (intro w hSw; (try dsimp only at hSw); go_simp; (try with_reducible rfl))
                            simp only [Act.put, List.setIfInBounds_toArray, List.set_cons_zero, List.set_cons_succ]
                            refine take_first 15 69 (v := ?vsyf1_16) rfl rfl (by kernel_rfl) (by kernel_rfl) (by kernel_rfl) (fun _ _ _ h => h) (by rfl) ?ysyf1_16 (by assumption) ?rsyf1_16
                            case ysyf1_16 => (intro w hSw; (try dsimp only at hSw); go_simp; (try with_reducible rfl))
                            simp only [Act.put, List.setIfInBounds_toArray, List.set_cons_zero, List.set_cons_succ]
                            refine take_first 16 70 (v := ?vsyf1_17) rfl rfl (by kernel_rfl) (by kernel_rfl) (by kernel_rfl) (fun _ _ _ h => h) (by rfl) ?ysyf1_17 (by assumption) ?rsyf1_17
                            case ysyf1_17 => (intro w hSw; (try dsimp only at hSw); go_simp; (try with_reducible rfl))
                            simp only [Act.put, List.setIfInBounds_toArray, List.set_cons_zero, List.set_cons_succ]
                            refine take_first 17 71 (v := ?vsyf1_18) rfl rfl (by kernel_rfl) (by kernel_rfl) (by kernel_rfl) (fun _ _ _ h => h) (by rfl) ?ysyf1_18 (by assumption) ?rsyf1_18
                            case ysyf1_18 => (intro w hSw; (try dsimp only at hSw); go_simp; (try with_reducible rfl))
                            simp only [Act.put, List.setIfInBounds_toArray, List.set_cons_zero, List.set_cons_succ]
                            refine take_first 18 72 (v := ?vsyf1_19) rfl rfl (by kernel_rfl) (by kernel_rfl) (by kernel_rfl) (fun _ _ _ h => h) (by rfl) ?ysyf1_19 (by assumption) ?rsyf1_19
                            case ysyf1_19 => (intro w hSw; (try dsimp only at hSw); go_simp; (try with_reducible rfl))
                            simp only [Act.put, List.setIfInBounds_toArray, List.set_cons_zero, List.set_cons_succ]
                            refine take_first 19 73 (v := ?vsyf1_20) rfl rfl (by kernel_rfl) (by kernel_rfl) (by kernel_rfl) (fun _ _ _ h => h) (by rfl) ?ysyf1_20 (by assumption) ?rsyf1_20
                            case ysyf1_20 => (intro w hSw; (try dsimp only at hSw); go_simp; (try with_reducible rfl))
                            simp only [Act.put, List.setIfInBounds_toArray, List.set_cons_zero, List.set_cons_succ]
                            refine take_first 20 74 (v := ?vsyf1_21) rfl rfl (by kernel_rfl) (by kernel_rfl) (by kernel_rfl) (fun _ _ _ h => h) (by rfl) ?ysyf1_21 (by assumption) ?rsyf1_21
                            case ysyf1_21 => (intro w hSw; (try dsimp only at hSw); go_simp; (try with_reducible rfl))
                            simp only [Act.put, List.setIfInBounds_toArray, List.set_cons_zero, List.set_cons_succ]
                            refine take_first 21 75 (v := ?vsyf1_22) rfl rfl (by kernel_rfl) (by kernel_rfl) (by kernel_rfl) (fun _ _ _ h => h) (by rfl) ?ysyf1_22 (by assumption) ?rsyf1_22
                            case ysyf1_22 => (intro w hSw; (try dsimp only at hSw); go_simp; (try with_reducible rfl))
                            simp only [Act.put, List.setIfInBounds_toArray, List.set_cons_zero, List.set_cons_succ]
                            refine take_first 22 76 (v := ?vsyf1_23) rfl rfl (by kernel_rfl) (by kernel_rfl) (by kernel_rfl) (fun _ _ _ h => h) (by rfl) ?ysyf1_23 (by assumption) ?rsyf1_23
                            case ysyf1_23 => (intro w hSw; (try dsimp only at hSw); go_simp; (try with_reducible rfl))
                            simp only [Act.put, List.setIfInBounds_toArray, List.set_cons_zero, List.set_cons_succ]
                            refine wpAnyH_ready (rs := [23]) (by kernel_rfl) (by simp) ?_
                            refine AllReadyH.cons (o := _) rfl (fun Ksyf1_24 hKsyf1_24 => ?csyf1_24) ?msyf1_24
                            case msyf1_24 => exact AllReadyH.nil
                            go_simp
                            refine (l6Places_any _ _ yc (ints_row.1 (HCr.out _ HWb.out).1)).mono ?_; rintro e wc ⟨rfl, hbc⟩; rw [hC]; have HWe := Lib.hid (HWb.out.trans (hbc.mono HWb.out.size)); replace k0 := And.intro (HTp.out _ HWe.out j z HZj.out) (HAl.out _ HWe.out); clear hbc
                            go_wp2_with fail
                            refine hKsyf1_24.out _ _ ?ksyf1_24 (fun hHeldsyf1_24 => ?dsyf1_24)
                            case ksyf1_24 => (first | (dsimp only; (first | with_reducible exact k0 | exact k0)) | (first | with_reducible exact k0 | exact k0))
                            clear hKsyf1_24 Ksyf1_24
                            refine take_first 24 78 (v := ?vsyf1_25) rfl rfl (by kernel_rfl) (by kernel_rfl) (by kernel_rfl) (fun _ _ _ h => h) (by rfl) ?ysyf1_25 (by assumption) ?rsyf1_25
                            case ysyf1_25 => (intro w hSw; (try dsimp only at hSw); go_simp; (try with_reducible rfl))
                            simp only [Act.put, List.setIfInBounds_toArray, List.set_cons_zero, List.set_cons_succ]
                            refine take_first 25 79 (v := ?vsyf1_26) rfl rfl (by kernel_rfl) (by kernel_rfl) (by kernel_rfl) (fun _ _ _ h => h) (by rfl) ?ysyf1_26 (by assumption) ?rsyf1_26
                            case ysyf1_26 => (intro w hSw; (try dsimp only at hSw); go_simp; (try with_reducible rfl))
                            simp only [Act.put, List.setIfInBounds_toArray, List.set_cons_zero, List.set_cons_succ]
                            refine take_first 26 80 (v := ?vsyf1_27) rfl rfl (by kernel_rfl) (by kernel_rfl) (by kernel_rfl) (fun _ _ _ h => h) (by rfl) ?ysyf1_27 (by assumption) ?rsyf1_27
                            case ysyf1_27 => (intro w hSw; (try dsimp only at hSw); go_simp; (try with_reducible rfl))
                            simp only [Act.put, List.setIfInBounds_toArray, List.set_cons_zero, List.set_cons_succ]
                            refine take_first 27 81 (v := ?vsyf1_28) rfl rfl (by kernel_rfl) (by kernel_rfl) (by kernel_rfl) (fun _ _ _ h => h) (by rfl) ?ysyf1_28 (by assumption) ?rsyf1_28
                            case ysyf1_28 => (intro w hSw; (try dsimp only at hSw); go_simp; (try with_reducible rfl))
                            simp only [Act.put, List.setIfInBounds_toArray, List.set_cons_zero, List.set_cons_succ]
                            refine take_first 28 82 (v := ?vsyf1_29) rfl rfl (by kernel_rfl) (by kernel_rfl) (by kernel_rfl) (fun _ _ _ h => h) (by rfl) ?ysyf1_29 (by assumption) ?rsyf1_29
                            case ysyf1_29 => (intro w hSw; (try dsimp only at hSw); go_simp; (try with_reducible rfl))
                            simp only [Act.put, List.setIfInBounds_toArray, List.set_cons_zero, List.set_cons_succ]
                            refine wpAnyH_ready (rs := [29]) (by kernel_rfl) (by simp) ?_
                            refine AllReadyH.cons (o := _) rfl (fun Ksyf1_30 hKsyf1_30 => ?csyf1_30) ?msyf1_30
                            case msyf1_30 => exact AllReadyH.nil
                            go_simp
                            refine (l6Places_any _ _ yk (ints_row.1 (HCr.out _ HWe.out).2)).mono ?_; rintro e wd ⟨rfl, hbd⟩; rw [hD]; have HWf := Lib.hid (HWe.out.trans (hbd.mono HWe.out.size)); replace k0 := And.intro (HTp.out _ HWf.out j z HZj.out) (HAl.out _ HWf.out); clear hbd
                            go_wp2_with fail
                            refine hKsyf1_30.out _ _ ?ksyf1_30 (fun hHeldsyf1_30 => ?dsyf1_30)
                            case ksyf1_30 => (first | (dsimp only; (first | with_reducible exact k0 | exact k0)) | (first | with_reducible exact k0 | exact k0))
                            clear hKsyf1_30 Ksyf1_30
                            refine take_first 30 84 (v := ?vsyf1_31) rfl rfl (by kernel_rfl) (by kernel_rfl) (by kernel_rfl) (fun _ _ _ h => h) (by rfl) ?ysyf1_31 (by assumption) ?rsyf1_31
                            case ysyf1_31 => (intro w hSw; (try dsimp only at hSw); go_simp; (try with_reducible rfl))
                            simp only [Act.put, List.setIfInBounds_toArray, List.set_cons_zero, List.set_cons_succ]
                            refine take_first 31 85 (v := ?vsyf1_32) rfl rfl (by kernel_rfl) (by kernel_rfl) (by kernel_rfl) (fun _ _ _ h => h) (by rfl) ?ysyf1_32 (by assumption) ?rsyf1_32
                            case ysyf1_32 => (intro w hSw; (try dsimp only at hSw); go_simp; (try with_reducible rfl))
                            simp only [Act.put, List.setIfInBounds_toArray, List.set_cons_zero, List.set_cons_succ]
                            refine take_first 32 86 (v := ?vsyf1_33) rfl rfl (by kernel_rfl) (by kernel_rfl) (by kernel_rfl) (fun _ _ _ h => h) (by rfl) ?ysyf1_33 (by assumption) ?rsyf1_33
                            case ysyf1_33 => (intro w hSw; (try dsimp only at hSw); go_simp; (try with_reducible rfl))
                            simp only [Act.put, List.setIfInBounds_toArray, List.set_cons_zero, List.set_cons_succ]
                            refine take_first 33 87 (v := ?vsyf1_34) rfl rfl (by kernel_rfl) (by kernel_rfl) (by kernel_rfl) (fun _ _ _ h => h) (by rfl) ?ysyf1_34 (by assumption) ?rsyf1_34
                            case ysyf1_34 => (intro w hSw; (try dsimp only at hSw); go_simp; (try with_reducible rfl))
                            simp only [Act.put, List.setIfInBounds_toArray, List.set_cons_zero, List.set_cons_succ]
                            refine take_first 34 88 (v := ?vsyf1_35) rfl rfl (by kernel_rfl) (by kernel_rfl) (by kernel_rfl) (fun _ _ _ h => h) (by rfl) ?ysyf1_35 (by assumption) ?rsyf1_35
                            case ysyf1_35 => (intro w hSw; (try dsimp only at hSw); go_simp; (try with_reducible rfl))
                            simp only [Act.put, List.setIfInBounds_toArray, List.set_cons_zero, List.set_cons_succ]
                            refine take_first 35 89 (v := ?vsyf1_36) rfl rfl (by kernel_rfl) (by kernel_rfl) (by kernel_rfl) (fun _ _ _ h => h) (by rfl) ?ysyf1_36 (by assumption) ?rsyf1_36
                            case ysyf1_36 => (intro w hSw; (try dsimp only at hSw); go_simp; (try with_reducible rfl))
                            simp only [Act.put, List.setIfInBounds_toArray, List.set_cons_zero, List.set_cons_succ]
                            refine take_first 36 90 (v := ?vsyf1_37) rfl rfl (by kernel_rfl) (by kernel_rfl) (by kernel_rfl) (fun _ _ _ h => h) (by rfl) ?ysyf1_37 (by assumption) ?rsyf1_37
                            case ysyf1_37 => (intro w hSw; (try dsimp only at hSw); go_simp; (try with_reducible rfl))
                            simp only [Act.put, List.setIfInBounds_toArray, List.set_cons_zero, List.set_cons_succ]
                            refine take_first 37 91 (v := ?vsyf1_38) rfl rfl (by kernel_rfl) (by kernel_rfl) (by kernel_rfl) (fun _ _ _ h => h) (by rfl) ?ysyf1_38 (by assumption) ?rsyf1_38
                            case ysyf1_38 => (intro w hSw; (try dsimp only at hSw); go_simp; (try with_reducible rfl))
                            simp only [Act.put, List.setIfInBounds_toArray, List.set_cons_zero, List.set_cons_succ]
                            refine take_first 38 92 (v := ?vsyf1_39) rfl rfl (by kernel_rfl) (by kernel_rfl) (by kernel_rfl) (fun _ _ _ h => h) (by rfl) ?ysyf1_39 (by assumption) ?rsyf1_39
                            case ysyf1_39 => (intro w hSw; (try dsimp only at hSw); go_simp; (try with_reducible rfl))
                            simp only [Act.put, List.setIfInBounds_toArray, List.set_cons_zero, List.set_cons_succ]
                            refine take_first 39 93 (v := ?vsyf1_40) rfl rfl (by kernel_rfl) (by kernel_rfl) (by kernel_rfl) (fun _ _ _ h => h) (by rfl) ?ysyf1_40 (by assumption) ?rsyf1_40
                            case ysyf1_40 => (intro w hSw; (try dsimp only at hSw); go_simp; (try with_reducible rfl))
                            simp only [Act.put, List.setIfInBounds_toArray, List.set_cons_zero, List.set_cons_succ]
                            refine wpAnyH_ready (rs := [40]) (by kernel_rfl) (by simp) ?_
                            refine AllReadyH.cons (o := _) rfl (fun Ksyf1_41 hKsyf1_41 => ?csyf1_41) ?msyf1_41
                            case msyf1_41 => exact AllReadyH.nil
                            go_simp
                            refine (l2Of_any _ _ _ x.disk.notes yt (HNr.out _ (HGo.out _ HWf.out))).mono ?_; rintro e we ⟨rfl, rfl⟩
                            go_wp2_with fail
                            refine hKsyf1_41.out _ _ ?ksyf1_41 (fun hHeldsyf1_41 => ?dsyf1_41)
                            case ksyf1_41 => (first | (dsimp only; (first | with_reducible exact k0 | exact k0)) | (first | with_reducible exact k0 | exact k0))
                            clear hKsyf1_41 Ksyf1_41
                            refine take_first 41 95 (v := ?vsyf1_42) rfl rfl (by kernel_rfl) (by kernel_rfl) (by kernel_rfl) (fun _ _ _ h => h) (by rfl) ?ysyf1_42 (by assumption) ?rsyf1_42
                            case ysyf1_42 => (intro w hSw; (try dsimp only at hSw); go_simp; (try with_reducible rfl))
                            simp only [Act.put, List.setIfInBounds_toArray, List.set_cons_zero, List.set_cons_succ]
                            refine take_first 42 96 (v := ?vsyf1_43) rfl rfl (by kernel_rfl) (by kernel_rfl) (by kernel_rfl) (fun _ _ _ h => h) (by rfl) ?ysyf1_43 (by assumption) ?rsyf1_43
                            case ysyf1_43 => (intro w hSw; (try dsimp only at hSw); go_simp; (try with_reducible rfl))
                            simp only [Act.put, List.setIfInBounds_toArray, List.set_cons_zero, List.set_cons_succ]
                            refine take_first 43 97 (v := ?vsyf1_44) rfl rfl (by kernel_rfl) (by kernel_rfl) (by kernel_rfl) (fun _ _ _ h => h) (by rfl) ?ysyf1_44 (by assumption) ?rsyf1_44
                            case ysyf1_44 => (intro w hSw; (try dsimp only at hSw); go_simp; (try with_reducible rfl))
                            simp only [Act.put, List.setIfInBounds_toArray, List.set_cons_zero, List.set_cons_succ]
                            refine wpAnyH_done (by kernel_rfl) ?esyf1 _
                            have HBz := Lib.hid (HGo.out _ HWf.out)
                            obtain ⟨-, -, -, -, -, -, -, -, -, -, q8, -, -⟩ := HAl.out _ HWf.out
                            clear k0
                            go_wp2
                            go_roundw
                            case rel => exact ⟨k + 1, by omega, by go_num, HSt.out, HBz.out⟩
                            case measure => simp [intOf]; omega
                        | false =>
                          cases yy with
                          | true =>
                            have HNo := Lib.hid (show froB x = false from fro_false (.inr (.inr (.inr (by rw [HI.out, HW.out, show actB ⟨yt, yo, true, yc, yk⟩ (lastK x.disk.notes yt == 2) = false by (rw [HV.out, hl]; simp)]; rfl)))))
                            refine wp_region_held_drew (S := (fun w' => w'.cell? ⟨bw, ow + j * 11, none⟩ = some (.int .i64 z.tx) ∧ w'.cell? ⟨w.heap.size, 2, none⟩ = some (.slice (some ⟨bw, ow, none⟩) x.way.length cw) ∧ w'.cell? ⟨w.heap.size, 0, none⟩ = some (.slice An x.disk.notes.length cn) ∧ w'.cell? ⟨wr.heap.size, 0, none⟩ = some (.int .i64 yt) ∧ w'.cell? ⟨wr.heap.size, 1, none⟩ = some (.int .i64 yo.kind) ∧ w'.cell? ⟨wr.heap.size, 2, none⟩ = some (.int .i64 yo.who) ∧ w'.cell? ⟨wr.heap.size, 3, none⟩ = some (.int .i64 yo.inn) ∧ w'.cell? ⟨wr.heap.size, 4, none⟩ = some (.int .i64 yo.code) ∧ w'.cell? ⟨wr.heap.size, 5, none⟩ = some (.int .i64 yo.sec) ∧ w'.cell? ⟨wr.heap.size, 6, none⟩ = some (.int .i64 yo.fam) ∧ w'.cell? ⟨wr.heap.size, 7, none⟩ = some (.int .i64 yo.gen) ∧ w'.cell? ⟨wr.heap.size, 8, none⟩ = some (.bool true) ∧ w'.cell? ⟨wr.heap.size, 9, none⟩ = some (.slice Ac yc.length cc) ∧ w'.cell? ⟨wr.heap.size, 10, none⟩ = some (.slice Ak yk.length ck))) (by kernel_rfl) ?hSsye1 (fun hHeldsye1 => ?stsye1)
                            case hSsye1 => (first | (dsimp only; (first | with_reducible exact k0 | exact k0)) | (first | with_reducible exact k0 | exact k0))
                            refine take_first 0 54 (v := ?vsye1_1) rfl rfl (by kernel_rfl) (by kernel_rfl) (by kernel_rfl) (fun _ _ _ h => h) (by rfl) ?ysye1_1 (by assumption) ?rsye1_1
                            case ysye1_1 => (intro w hSw; (try dsimp only at hSw); go_simp; (try with_reducible rfl))
                            simp only [Act.put, List.setIfInBounds_toArray, List.set_cons_zero, List.set_cons_succ]
                            refine take_first 1 55 (v := ?vsye1_2) rfl rfl (by kernel_rfl) (by kernel_rfl) (by kernel_rfl) (fun _ _ _ h => h) (by rfl) ?ysye1_2 (by assumption) ?rsye1_2
                            case ysye1_2 => (intro w hSw; (try dsimp only at hSw); go_simp; (try with_reducible rfl))
                            simp only [Act.put, List.setIfInBounds_toArray, List.set_cons_zero, List.set_cons_succ]
                            refine wpAnyH_ready (rs := [2]) (by kernel_rfl) (by simp) ?_
                            refine AllReadyH.cons (o := _) rfl (fun Ksye1_3 hKsye1_3 => ?csye1_3) ?msye1_3
                            case msye1_3 => exact AllReadyH.nil
                            go_simp
                            refine (l1In_any _ _ _ _).mono ?_; rintro e wz ⟨rfl, rfl⟩; rw [hA]
                            go_wp2_with fail
                            refine hKsye1_3.out _ _ ?ksye1_3 (fun hHeldsye1_3 => ?dsye1_3)
                            case ksye1_3 => (first | (dsimp only; (first | with_reducible exact k0 | exact k0)) | (first | with_reducible exact k0 | exact k0))
                            clear hKsye1_3 Ksye1_3
                            have hgn : ¬ yt ≤ z.tx := (by omega); clear hge
                            refine take_first 3 57 (v := ?vsye1_4) rfl rfl (by kernel_rfl) (by kernel_rfl) (by kernel_rfl) (fun _ _ _ h => h) (by rfl) ?ysye1_4 (by assumption) ?rsye1_4
                            case ysye1_4 => (intro w hSw; (try dsimp only at hSw); go_simp; (try with_reducible rfl))
                            simp only [Act.put, List.setIfInBounds_toArray, List.set_cons_zero, List.set_cons_succ]
                            refine take_first 4 58 (v := ?vsye1_5) rfl rfl (by kernel_rfl) (by kernel_rfl) (by kernel_rfl) (fun _ _ _ h => h) (by rfl) ?ysye1_5 (by assumption) ?rsye1_5
                            case ysye1_5 => (intro w hSw; (try dsimp only at hSw); go_simp; (try with_reducible rfl))
                            simp only [Act.put, List.setIfInBounds_toArray, List.set_cons_zero, List.set_cons_succ]
                            refine take_first 5 59 (v := ?vsye1_6) rfl rfl (by kernel_rfl) (by kernel_rfl) (by kernel_rfl) (fun _ _ _ h => h) (by rfl) ?ysye1_6 (by assumption) ?rsye1_6
                            case ysye1_6 => (intro w hSw; (try dsimp only at hSw); go_simp; (try with_reducible rfl))
                            simp only [Act.put, List.setIfInBounds_toArray, List.set_cons_zero, List.set_cons_succ]
                            refine take_first 6 60 (v := ?vsye1_7) rfl rfl (by kernel_rfl) (by kernel_rfl) (by kernel_rfl) (fun _ _ _ h => h) (by rfl) ?ysye1_7 (by assumption) ?rsye1_7
                            case ysye1_7 => (intro w hSw; (try dsimp only at hSw); go_simp; (try with_reducible rfl))
                            simp only [Act.put, List.setIfInBounds_toArray, List.set_cons_zero, List.set_cons_succ]
                            refine take_first 7 61 (v := ?vsye1_8) rfl rfl (by kernel_rfl) (by kernel_rfl) (by kernel_rfl) (fun _ _ _ h => h) (by rfl) ?ysye1_8 (by assumption) ?rsye1_8
                            case ysye1_8 => (intro w hSw; (try dsimp only at hSw); go_simp; (try with_reducible rfl))
                            simp only [Act.put, List.setIfInBounds_toArray, List.set_cons_zero, List.set_cons_succ]
                            refine take_first 8 62 (v := ?vsye1_9) rfl rfl (by kernel_rfl) (by kernel_rfl) (by kernel_rfl) (fun _ _ _ h => h) (by rfl) ?ysye1_9 (by assumption) ?rsye1_9
                            case ysye1_9 => (intro w hSw; (try dsimp only at hSw); go_simp; (try with_reducible rfl))
                            simp only [Act.put, List.setIfInBounds_toArray, List.set_cons_zero, List.set_cons_succ]
                            refine take_first 9 63 (v := ?vsye1_10) rfl rfl (by kernel_rfl) (by kernel_rfl) (by kernel_rfl) (fun _ _ _ h => h) (by rfl) ?ysye1_10 (by assumption) ?rsye1_10
                            case ysye1_10 => (intro w hSw; (try dsimp only at hSw); go_simp; (try with_reducible rfl))
                            simp only [Act.put, List.setIfInBounds_toArray, List.set_cons_zero, List.set_cons_succ]
                            refine take_first 10 64 (v := ?vsye1_11) rfl rfl (by kernel_rfl) (by kernel_rfl) (by kernel_rfl) (fun _ _ _ h => h) (by rfl) ?ysye1_11 (by assumption) ?rsye1_11
                            case ysye1_11 => (intro w hSw; (try dsimp only at hSw); go_simp; (try with_reducible rfl))
                            simp only [Act.put, List.setIfInBounds_toArray, List.set_cons_zero, List.set_cons_succ]
                            refine take_first 11 65 (v := ?vsye1_12) rfl rfl (by kernel_rfl) (by kernel_rfl) (by kernel_rfl) (fun _ _ _ h => h) (by rfl) ?ysye1_12 (by assumption) ?rsye1_12
                            case ysye1_12 => (intro w hSw; (try dsimp only at hSw); go_simp; (try with_reducible rfl))
                            simp only [Act.put, List.setIfInBounds_toArray, List.set_cons_zero, List.set_cons_succ]
                            refine take_first 12 66 (v := ?vsye1_13) rfl rfl (by kernel_rfl) (by kernel_rfl) (by kernel_rfl) (fun _ _ _ h => h) (by rfl) ?ysye1_13 (by assumption) ?rsye1_13
                            case ysye1_13 => (intro w hSw; (try dsimp only at hSw); go_simp; (try with_reducible rfl))
                            simp only [Act.put, List.setIfInBounds_toArray, List.set_cons_zero, List.set_cons_succ]
                            refine take_first 13 67 (v := ?vsye1_14) rfl rfl (by kernel_rfl) (by kernel_rfl) (by kernel_rfl) (fun _ _ _ h => h) (by rfl) ?ysye1_14 (by assumption) ?rsye1_14
                            case ysye1_14 => (intro w hSw; (try dsimp only at hSw); go_simp; (try with_reducible rfl))
                            simp only [Act.put, List.setIfInBounds_toArray, List.set_cons_zero, List.set_cons_succ]
                            refine take_first 14 68 (v := ?vsye1_15) rfl rfl (by kernel_rfl) (by kernel_rfl) (by kernel_rfl) (fun _ _ _ h => h) (by rfl) ?ysye1_15 (by assumption) ?rsye1_15
                            case ysye1_15 => (intro w hSw; (try dsimp only at hSw); go_simp; (try with_reducible rfl))
                            simp only [Act.put, List.setIfInBounds_toArray, List.set_cons_zero, List.set_cons_succ]
                            refine take_first 15 69 (v := ?vsye1_16) rfl rfl (by kernel_rfl) (by kernel_rfl) (by kernel_rfl) (fun _ _ _ h => h) (by rfl) ?ysye1_16 (by assumption) ?rsye1_16
                            case ysye1_16 => (intro w hSw; (try dsimp only at hSw); go_simp; (try with_reducible rfl))
                            simp only [Act.put, List.setIfInBounds_toArray, List.set_cons_zero, List.set_cons_succ]
                            refine take_first 16 70 (v := ?vsye1_17) rfl rfl (by kernel_rfl) (by kernel_rfl) (by kernel_rfl) (fun _ _ _ h => h) (by rfl) ?ysye1_17 (by assumption) ?rsye1_17
                            case ysye1_17 => (intro w hSw; (try dsimp only at hSw); go_simp; (try with_reducible rfl))
                            simp only [Act.put, List.setIfInBounds_toArray, List.set_cons_zero, List.set_cons_succ]
                            refine take_first 17 71 (v := ?vsye1_18) rfl rfl (by kernel_rfl) (by kernel_rfl) (by kernel_rfl) (fun _ _ _ h => h) (by rfl) ?ysye1_18 (by assumption) ?rsye1_18
                            case ysye1_18 => (intro w hSw; (try dsimp only at hSw); go_simp; (try with_reducible rfl))
                            simp only [Act.put, List.setIfInBounds_toArray, List.set_cons_zero, List.set_cons_succ]
                            refine take_first 18 72 (v := ?vsye1_19) rfl rfl (by kernel_rfl) (by kernel_rfl) (by kernel_rfl) (fun _ _ _ h => h) (by rfl) ?ysye1_19 (by assumption) ?rsye1_19
                            case ysye1_19 => (intro w hSw; (try dsimp only at hSw); go_simp; (try with_reducible rfl))
                            simp only [Act.put, List.setIfInBounds_toArray, List.set_cons_zero, List.set_cons_succ]
                            refine take_first 19 73 (v := ?vsye1_20) rfl rfl (by kernel_rfl) (by kernel_rfl) (by kernel_rfl) (fun _ _ _ h => h) (by rfl) ?ysye1_20 (by assumption) ?rsye1_20
                            case ysye1_20 => (intro w hSw; (try dsimp only at hSw); go_simp; (try with_reducible rfl))
                            simp only [Act.put, List.setIfInBounds_toArray, List.set_cons_zero, List.set_cons_succ]
                            refine take_first 20 74 (v := ?vsye1_21) rfl rfl (by kernel_rfl) (by kernel_rfl) (by kernel_rfl) (fun _ _ _ h => h) (by rfl) ?ysye1_21 (by assumption) ?rsye1_21
                            case ysye1_21 => (intro w hSw; (try dsimp only at hSw); go_simp; (try with_reducible rfl))
                            simp only [Act.put, List.setIfInBounds_toArray, List.set_cons_zero, List.set_cons_succ]
                            refine take_first 21 75 (v := ?vsye1_22) rfl rfl (by kernel_rfl) (by kernel_rfl) (by kernel_rfl) (fun _ _ _ h => h) (by rfl) ?ysye1_22 (by assumption) ?rsye1_22
                            case ysye1_22 => (intro w hSw; (try dsimp only at hSw); go_simp; (try with_reducible rfl))
                            simp only [Act.put, List.setIfInBounds_toArray, List.set_cons_zero, List.set_cons_succ]
                            refine take_first 22 76 (v := ?vsye1_23) rfl rfl (by kernel_rfl) (by kernel_rfl) (by kernel_rfl) (fun _ _ _ h => h) (by rfl) ?ysye1_23 (by assumption) ?rsye1_23
                            case ysye1_23 => (intro w hSw; (try dsimp only at hSw); go_simp; (try with_reducible rfl))
                            simp only [Act.put, List.setIfInBounds_toArray, List.set_cons_zero, List.set_cons_succ]
                            refine wpAnyH_ready (rs := [23]) (by kernel_rfl) (by simp) ?_
                            refine AllReadyH.cons (o := _) rfl (fun Ksye1_24 hKsye1_24 => ?csye1_24) ?msye1_24
                            case msye1_24 => exact AllReadyH.nil
                            go_simp
                            refine (l6Places_any _ _ yc (ints_row.1 (HCr.out _ HWb.out).1)).mono ?_; rintro e wc ⟨rfl, hbc⟩; rw [hC]; have HWe := Lib.hid (HWb.out.trans (hbc.mono HWb.out.size)); replace k0 := And.intro (HTp.out _ HWe.out j z HZj.out) (HAl.out _ HWe.out); clear hbc
                            go_wp2_with fail
                            refine hKsye1_24.out _ _ ?ksye1_24 (fun hHeldsye1_24 => ?dsye1_24)
                            case ksye1_24 => (first | (dsimp only; (first | with_reducible exact k0 | exact k0)) | (first | with_reducible exact k0 | exact k0))
                            clear hKsye1_24 Ksye1_24
                            refine take_first 24 78 (v := ?vsye1_25) rfl rfl (by kernel_rfl) (by kernel_rfl) (by kernel_rfl) (fun _ _ _ h => h) (by rfl) ?ysye1_25 (by assumption) ?rsye1_25
                            case ysye1_25 => (intro w hSw; (try dsimp only at hSw); go_simp; (try with_reducible rfl))
                            simp only [Act.put, List.setIfInBounds_toArray, List.set_cons_zero, List.set_cons_succ]
                            refine take_first 25 79 (v := ?vsye1_26) rfl rfl (by kernel_rfl) (by kernel_rfl) (by kernel_rfl) (fun _ _ _ h => h) (by rfl) ?ysye1_26 (by assumption) ?rsye1_26
                            case ysye1_26 => (intro w hSw; (try dsimp only at hSw); go_simp; (try with_reducible rfl))
                            simp only [Act.put, List.setIfInBounds_toArray, List.set_cons_zero, List.set_cons_succ]
                            refine take_first 26 80 (v := ?vsye1_27) rfl rfl (by kernel_rfl) (by kernel_rfl) (by kernel_rfl) (fun _ _ _ h => h) (by rfl) ?ysye1_27 (by assumption) ?rsye1_27
                            case ysye1_27 => (intro w hSw; (try dsimp only at hSw); go_simp; (try with_reducible rfl))
                            simp only [Act.put, List.setIfInBounds_toArray, List.set_cons_zero, List.set_cons_succ]
                            refine take_first 27 81 (v := ?vsye1_28) rfl rfl (by kernel_rfl) (by kernel_rfl) (by kernel_rfl) (fun _ _ _ h => h) (by rfl) ?ysye1_28 (by assumption) ?rsye1_28
                            case ysye1_28 => (intro w hSw; (try dsimp only at hSw); go_simp; (try with_reducible rfl))
                            simp only [Act.put, List.setIfInBounds_toArray, List.set_cons_zero, List.set_cons_succ]
                            refine take_first 28 82 (v := ?vsye1_29) rfl rfl (by kernel_rfl) (by kernel_rfl) (by kernel_rfl) (fun _ _ _ h => h) (by rfl) ?ysye1_29 (by assumption) ?rsye1_29
                            case ysye1_29 => (intro w hSw; (try dsimp only at hSw); go_simp; (try with_reducible rfl))
                            simp only [Act.put, List.setIfInBounds_toArray, List.set_cons_zero, List.set_cons_succ]
                            refine wpAnyH_ready (rs := [29]) (by kernel_rfl) (by simp) ?_
                            refine AllReadyH.cons (o := _) rfl (fun Ksye1_30 hKsye1_30 => ?csye1_30) ?msye1_30
                            case msye1_30 => exact AllReadyH.nil
                            go_simp
                            refine (l6Places_any _ _ yk (ints_row.1 (HCr.out _ HWe.out).2)).mono ?_; rintro e wd ⟨rfl, hbd⟩; rw [hD]; have HWf := Lib.hid (HWe.out.trans (hbd.mono HWe.out.size)); replace k0 := And.intro (HTp.out _ HWf.out j z HZj.out) (HAl.out _ HWf.out); clear hbd
                            go_wp2_with fail
                            refine hKsye1_30.out _ _ ?ksye1_30 (fun hHeldsye1_30 => ?dsye1_30)
                            case ksye1_30 => (first | (dsimp only; (first | with_reducible exact k0 | exact k0)) | (first | with_reducible exact k0 | exact k0))
                            clear hKsye1_30 Ksye1_30
                            refine take_first 30 84 (v := ?vsye1_31) rfl rfl (by kernel_rfl) (by kernel_rfl) (by kernel_rfl) (fun _ _ _ h => h) (by rfl) ?ysye1_31 (by assumption) ?rsye1_31
                            case ysye1_31 => (intro w hSw; (try dsimp only at hSw); go_simp; (try with_reducible rfl))
                            simp only [Act.put, List.setIfInBounds_toArray, List.set_cons_zero, List.set_cons_succ]
                            refine take_first 31 85 (v := ?vsye1_32) rfl rfl (by kernel_rfl) (by kernel_rfl) (by kernel_rfl) (fun _ _ _ h => h) (by rfl) ?ysye1_32 (by assumption) ?rsye1_32
                            case ysye1_32 => (intro w hSw; (try dsimp only at hSw); go_simp; (try with_reducible rfl))
                            simp only [Act.put, List.setIfInBounds_toArray, List.set_cons_zero, List.set_cons_succ]
                            refine take_first 32 86 (v := ?vsye1_33) rfl rfl (by kernel_rfl) (by kernel_rfl) (by kernel_rfl) (fun _ _ _ h => h) (by rfl) ?ysye1_33 (by assumption) ?rsye1_33
                            case ysye1_33 => (intro w hSw; (try dsimp only at hSw); go_simp; (try with_reducible rfl))
                            simp only [Act.put, List.setIfInBounds_toArray, List.set_cons_zero, List.set_cons_succ]
                            refine take_first 33 87 (v := ?vsye1_34) rfl rfl (by kernel_rfl) (by kernel_rfl) (by kernel_rfl) (fun _ _ _ h => h) (by rfl) ?ysye1_34 (by assumption) ?rsye1_34
                            case ysye1_34 => (intro w hSw; (try dsimp only at hSw); go_simp; (try with_reducible rfl))
                            simp only [Act.put, List.setIfInBounds_toArray, List.set_cons_zero, List.set_cons_succ]
                            refine take_first 34 88 (v := ?vsye1_35) rfl rfl (by kernel_rfl) (by kernel_rfl) (by kernel_rfl) (fun _ _ _ h => h) (by rfl) ?ysye1_35 (by assumption) ?rsye1_35
                            case ysye1_35 => (intro w hSw; (try dsimp only at hSw); go_simp; (try with_reducible rfl))
                            simp only [Act.put, List.setIfInBounds_toArray, List.set_cons_zero, List.set_cons_succ]
                            refine take_first 35 89 (v := ?vsye1_36) rfl rfl (by kernel_rfl) (by kernel_rfl) (by kernel_rfl) (fun _ _ _ h => h) (by rfl) ?ysye1_36 (by assumption) ?rsye1_36
                            case ysye1_36 => (intro w hSw; (try dsimp only at hSw); go_simp; (try with_reducible rfl))
                            simp only [Act.put, List.setIfInBounds_toArray, List.set_cons_zero, List.set_cons_succ]
                            refine take_first 36 90 (v := ?vsye1_37) rfl rfl (by kernel_rfl) (by kernel_rfl) (by kernel_rfl) (fun _ _ _ h => h) (by rfl) ?ysye1_37 (by assumption) ?rsye1_37
                            case ysye1_37 => (intro w hSw; (try dsimp only at hSw); go_simp; (try with_reducible rfl))
                            simp only [Act.put, List.setIfInBounds_toArray, List.set_cons_zero, List.set_cons_succ]
                            refine take_first 37 91 (v := ?vsye1_38) rfl rfl (by kernel_rfl) (by kernel_rfl) (by kernel_rfl) (fun _ _ _ h => h) (by rfl) ?ysye1_38 (by assumption) ?rsye1_38
                            case ysye1_38 => (intro w hSw; (try dsimp only at hSw); go_simp; (try with_reducible rfl))
                            simp only [Act.put, List.setIfInBounds_toArray, List.set_cons_zero, List.set_cons_succ]
                            refine take_first 38 92 (v := ?vsye1_39) rfl rfl (by kernel_rfl) (by kernel_rfl) (by kernel_rfl) (fun _ _ _ h => h) (by rfl) ?ysye1_39 (by assumption) ?rsye1_39
                            case ysye1_39 => (intro w hSw; (try dsimp only at hSw); go_simp; (try with_reducible rfl))
                            simp only [Act.put, List.setIfInBounds_toArray, List.set_cons_zero, List.set_cons_succ]
                            refine take_first 39 93 (v := ?vsye1_40) rfl rfl (by kernel_rfl) (by kernel_rfl) (by kernel_rfl) (fun _ _ _ h => h) (by rfl) ?ysye1_40 (by assumption) ?rsye1_40
                            case ysye1_40 => (intro w hSw; (try dsimp only at hSw); go_simp; (try with_reducible rfl))
                            simp only [Act.put, List.setIfInBounds_toArray, List.set_cons_zero, List.set_cons_succ]
                            refine wpAnyH_ready (rs := [40]) (by kernel_rfl) (by simp) ?_
                            refine AllReadyH.cons (o := _) rfl (fun Ksye1_41 hKsye1_41 => ?csye1_41) ?msye1_41
                            case msye1_41 => exact AllReadyH.nil
                            go_simp
                            refine (l2Of_any _ _ _ x.disk.notes yt (HNr.out _ (HGo.out _ HWf.out))).mono ?_; rintro e we ⟨rfl, rfl⟩
                            go_wp2_with fail
                            refine hKsye1_41.out _ _ ?ksye1_41 (fun hHeldsye1_41 => ?dsye1_41)
                            case ksye1_41 => (first | (dsimp only; (first | with_reducible exact k0 | exact k0)) | (first | with_reducible exact k0 | exact k0))
                            clear hKsye1_41 Ksye1_41
                            refine take_first 41 95 (v := ?vsye1_42) rfl rfl (by kernel_rfl) (by kernel_rfl) (by kernel_rfl) (fun _ _ _ h => h) (by rfl) ?ysye1_42 (by assumption) ?rsye1_42
                            case ysye1_42 => (intro w hSw; (try dsimp only at hSw); go_simp; (try with_reducible rfl))
                            simp only [Act.put, List.setIfInBounds_toArray, List.set_cons_zero, List.set_cons_succ]
                            refine take_first 42 96 (v := ?vsye1_43) rfl rfl (by kernel_rfl) (by kernel_rfl) (by kernel_rfl) (fun _ _ _ h => h) (by rfl) ?ysye1_43 (by assumption) ?rsye1_43
                            case ysye1_43 => (intro w hSw; (try dsimp only at hSw); go_simp; (try with_reducible rfl))
                            simp only [Act.put, List.setIfInBounds_toArray, List.set_cons_zero, List.set_cons_succ]
                            refine take_first 43 97 (v := ?vsye1_44) rfl rfl (by kernel_rfl) (by kernel_rfl) (by kernel_rfl) (fun _ _ _ h => h) (by rfl) ?ysye1_44 (by assumption) ?rsye1_44
                            case ysye1_44 => (intro w hSw; (try dsimp only at hSw); go_simp; (try with_reducible rfl))
                            simp only [Act.put, List.setIfInBounds_toArray, List.set_cons_zero, List.set_cons_succ]
                            refine wpAnyH_done (by kernel_rfl) ?esye1 _
                            clear k0
                            have HBz := Lib.hid (HYr.out _ (HGo.out _ HWf.out)).2
                            go_wp2
                            go_ret
                            exact ⟨ret_bool HNo.out.symm, HBz.out⟩
                          | false =>
                            have HVf := Lib.hid (show actB ⟨yt, yo, false, yc, yk⟩ (lastK x.disk.notes yt == 2) = (opB yo && decide (yk.length = 0)) by rw [HV.out, hl, hA, hC, hD]; simp)
                            refine wp_region_held_drew (S := (fun w' => w'.cell? ⟨bw, ow + j * 11, none⟩ = some (.int .i64 z.tx) ∧ w'.cell? ⟨w.heap.size, 2, none⟩ = some (.slice (some ⟨bw, ow, none⟩) x.way.length cw) ∧ w'.cell? ⟨w.heap.size, 0, none⟩ = some (.slice An x.disk.notes.length cn) ∧ w'.cell? ⟨wr.heap.size, 0, none⟩ = some (.int .i64 yt) ∧ w'.cell? ⟨wr.heap.size, 1, none⟩ = some (.int .i64 yo.kind) ∧ w'.cell? ⟨wr.heap.size, 2, none⟩ = some (.int .i64 yo.who) ∧ w'.cell? ⟨wr.heap.size, 3, none⟩ = some (.int .i64 yo.inn) ∧ w'.cell? ⟨wr.heap.size, 4, none⟩ = some (.int .i64 yo.code) ∧ w'.cell? ⟨wr.heap.size, 5, none⟩ = some (.int .i64 yo.sec) ∧ w'.cell? ⟨wr.heap.size, 6, none⟩ = some (.int .i64 yo.fam) ∧ w'.cell? ⟨wr.heap.size, 7, none⟩ = some (.int .i64 yo.gen) ∧ w'.cell? ⟨wr.heap.size, 8, none⟩ = some (.bool false) ∧ w'.cell? ⟨wr.heap.size, 9, none⟩ = some (.slice Ac yc.length cc) ∧ w'.cell? ⟨wr.heap.size, 10, none⟩ = some (.slice Ak yk.length ck))) (by kernel_rfl) ?hSsyf0 (fun hHeldsyf0 => ?stsyf0)
                            case hSsyf0 => (first | (dsimp only; (first | with_reducible exact k0 | exact k0)) | (first | with_reducible exact k0 | exact k0))
                            refine take_first 0 54 (v := ?vsyf0_1) rfl rfl (by kernel_rfl) (by kernel_rfl) (by kernel_rfl) (fun _ _ _ h => h) (by rfl) ?ysyf0_1 (by assumption) ?rsyf0_1
                            case ysyf0_1 => (intro w hSw; (try dsimp only at hSw); go_simp; (try with_reducible rfl))
                            simp only [Act.put, List.setIfInBounds_toArray, List.set_cons_zero, List.set_cons_succ]
                            refine take_first 1 55 (v := ?vsyf0_2) rfl rfl (by kernel_rfl) (by kernel_rfl) (by kernel_rfl) (fun _ _ _ h => h) (by rfl) ?ysyf0_2 (by assumption) ?rsyf0_2
                            case ysyf0_2 => (intro w hSw; (try dsimp only at hSw); go_simp; (try with_reducible rfl))
                            simp only [Act.put, List.setIfInBounds_toArray, List.set_cons_zero, List.set_cons_succ]
                            refine wpAnyH_ready (rs := [2]) (by kernel_rfl) (by simp) ?_
                            refine AllReadyH.cons (o := _) rfl (fun Ksyf0_3 hKsyf0_3 => ?csyf0_3) ?msyf0_3
                            case msyf0_3 => exact AllReadyH.nil
                            go_simp
                            refine (l1In_any _ _ _ _).mono ?_; rintro e wz ⟨rfl, rfl⟩; rw [hA]
                            go_wp2_with fail
                            refine hKsyf0_3.out _ _ ?ksyf0_3 (fun hHeldsyf0_3 => ?dsyf0_3)
                            case ksyf0_3 => (first | (dsimp only; (first | with_reducible exact k0 | exact k0)) | (first | with_reducible exact k0 | exact k0))
                            clear hKsyf0_3 Ksyf0_3
                            have hgn : ¬ yt ≤ z.tx := (by omega); clear hge
                            refine take_first 3 57 (v := ?vsyf0_4) rfl rfl (by kernel_rfl) (by kernel_rfl) (by kernel_rfl) (fun _ _ _ h => h) (by rfl) ?ysyf0_4 (by assumption) ?rsyf0_4
                            case ysyf0_4 => (intro w hSw; (try dsimp only at hSw); go_simp; (try with_reducible rfl))
                            simp only [Act.put, List.setIfInBounds_toArray, List.set_cons_zero, List.set_cons_succ]
                            refine take_first 4 58 (v := ?vsyf0_5) rfl rfl (by kernel_rfl) (by kernel_rfl) (by kernel_rfl) (fun _ _ _ h => h) (by rfl) ?ysyf0_5 (by assumption) ?rsyf0_5
                            case ysyf0_5 => (intro w hSw; (try dsimp only at hSw); go_simp; (try with_reducible rfl))
                            simp only [Act.put, List.setIfInBounds_toArray, List.set_cons_zero, List.set_cons_succ]
                            refine take_first 5 59 (v := ?vsyf0_6) rfl rfl (by kernel_rfl) (by kernel_rfl) (by kernel_rfl) (fun _ _ _ h => h) (by rfl) ?ysyf0_6 (by assumption) ?rsyf0_6
                            case ysyf0_6 => (intro w hSw; (try dsimp only at hSw); go_simp; (try with_reducible rfl))
                            simp only [Act.put, List.setIfInBounds_toArray, List.set_cons_zero, List.set_cons_succ]
                            refine take_first 6 60 (v := ?vsyf0_7) rfl rfl (by kernel_rfl) (by kernel_rfl) (by kernel_rfl) (fun _ _ _ h => h) (by rfl) ?ysyf0_7 (by assumption) ?rsyf0_7
                            case ysyf0_7 => (intro w hSw; (try dsimp only at hSw); go_simp; (try with_reducible rfl))
                            simp only [Act.put, List.setIfInBounds_toArray, List.set_cons_zero, List.set_cons_succ]
                            refine take_first 7 61 (v := ?vsyf0_8) rfl rfl (by kernel_rfl) (by kernel_rfl) (by kernel_rfl) (fun _ _ _ h => h) (by rfl) ?ysyf0_8 (by assumption) ?rsyf0_8
                            case ysyf0_8 => (intro w hSw; (try dsimp only at hSw); go_simp; (try with_reducible rfl))
                            simp only [Act.put, List.setIfInBounds_toArray, List.set_cons_zero, List.set_cons_succ]
                            refine take_first 8 62 (v := ?vsyf0_9) rfl rfl (by kernel_rfl) (by kernel_rfl) (by kernel_rfl) (fun _ _ _ h => h) (by rfl) ?ysyf0_9 (by assumption) ?rsyf0_9
                            case ysyf0_9 => (intro w hSw; (try dsimp only at hSw); go_simp; (try with_reducible rfl))
                            simp only [Act.put, List.setIfInBounds_toArray, List.set_cons_zero, List.set_cons_succ]
                            refine take_first 9 63 (v := ?vsyf0_10) rfl rfl (by kernel_rfl) (by kernel_rfl) (by kernel_rfl) (fun _ _ _ h => h) (by rfl) ?ysyf0_10 (by assumption) ?rsyf0_10
                            case ysyf0_10 => (intro w hSw; (try dsimp only at hSw); go_simp; (try with_reducible rfl))
                            simp only [Act.put, List.setIfInBounds_toArray, List.set_cons_zero, List.set_cons_succ]
                            refine take_first 10 64 (v := ?vsyf0_11) rfl rfl (by kernel_rfl) (by kernel_rfl) (by kernel_rfl) (fun _ _ _ h => h) (by rfl) ?ysyf0_11 (by assumption) ?rsyf0_11
                            case ysyf0_11 => (intro w hSw; (try dsimp only at hSw); go_simp; (try with_reducible rfl))
                            simp only [Act.put, List.setIfInBounds_toArray, List.set_cons_zero, List.set_cons_succ]
                            refine take_first 11 65 (v := ?vsyf0_12) rfl rfl (by kernel_rfl) (by kernel_rfl) (by kernel_rfl) (fun _ _ _ h => h) (by rfl) ?ysyf0_12 (by assumption) ?rsyf0_12
                            case ysyf0_12 => (intro w hSw; (try dsimp only at hSw); go_simp; (try with_reducible rfl))
                            simp only [Act.put, List.setIfInBounds_toArray, List.set_cons_zero, List.set_cons_succ]
                            refine take_first 12 66 (v := ?vsyf0_13) rfl rfl (by kernel_rfl) (by kernel_rfl) (by kernel_rfl) (fun _ _ _ h => h) (by rfl) ?ysyf0_13 (by assumption) ?rsyf0_13
                            case ysyf0_13 => (intro w hSw; (try dsimp only at hSw); go_simp; (try with_reducible rfl))
                            simp only [Act.put, List.setIfInBounds_toArray, List.set_cons_zero, List.set_cons_succ]
                            refine take_first 13 67 (v := ?vsyf0_14) rfl rfl (by kernel_rfl) (by kernel_rfl) (by kernel_rfl) (fun _ _ _ h => h) (by rfl) ?ysyf0_14 (by assumption) ?rsyf0_14
                            case ysyf0_14 => (intro w hSw; (try dsimp only at hSw); go_simp; (try with_reducible rfl))
                            simp only [Act.put, List.setIfInBounds_toArray, List.set_cons_zero, List.set_cons_succ]
                            refine take_first 14 68 (v := ?vsyf0_15) rfl rfl (by kernel_rfl) (by kernel_rfl) (by kernel_rfl) (fun _ _ _ h => h) (by rfl) ?ysyf0_15 (by assumption) ?rsyf0_15
                            case ysyf0_15 => (intro w hSw; (try dsimp only at hSw); go_simp; (try with_reducible rfl))
                            simp only [Act.put, List.setIfInBounds_toArray, List.set_cons_zero, List.set_cons_succ]
                            refine take_first 15 69 (v := ?vsyf0_16) rfl rfl (by kernel_rfl) (by kernel_rfl) (by kernel_rfl) (fun _ _ _ h => h) (by rfl) ?ysyf0_16 (by assumption) ?rsyf0_16
                            case ysyf0_16 => (intro w hSw; (try dsimp only at hSw); go_simp; (try with_reducible rfl))
                            simp only [Act.put, List.setIfInBounds_toArray, List.set_cons_zero, List.set_cons_succ]
                            refine take_first 16 70 (v := ?vsyf0_17) rfl rfl (by kernel_rfl) (by kernel_rfl) (by kernel_rfl) (fun _ _ _ h => h) (by rfl) ?ysyf0_17 (by assumption) ?rsyf0_17
                            case ysyf0_17 => (intro w hSw; (try dsimp only at hSw); go_simp; (try with_reducible rfl))
                            simp only [Act.put, List.setIfInBounds_toArray, List.set_cons_zero, List.set_cons_succ]
                            refine take_first 17 71 (v := ?vsyf0_18) rfl rfl (by kernel_rfl) (by kernel_rfl) (by kernel_rfl) (fun _ _ _ h => h) (by rfl) ?ysyf0_18 (by assumption) ?rsyf0_18
                            case ysyf0_18 => (intro w hSw; (try dsimp only at hSw); go_simp; (try with_reducible rfl))
                            simp only [Act.put, List.setIfInBounds_toArray, List.set_cons_zero, List.set_cons_succ]
                            refine take_first 18 72 (v := ?vsyf0_19) rfl rfl (by kernel_rfl) (by kernel_rfl) (by kernel_rfl) (fun _ _ _ h => h) (by rfl) ?ysyf0_19 (by assumption) ?rsyf0_19
                            case ysyf0_19 => (intro w hSw; (try dsimp only at hSw); go_simp; (try with_reducible rfl))
                            simp only [Act.put, List.setIfInBounds_toArray, List.set_cons_zero, List.set_cons_succ]
                            refine take_first 19 73 (v := ?vsyf0_20) rfl rfl (by kernel_rfl) (by kernel_rfl) (by kernel_rfl) (fun _ _ _ h => h) (by rfl) ?ysyf0_20 (by assumption) ?rsyf0_20
                            case ysyf0_20 => (intro w hSw; (try dsimp only at hSw); go_simp; (try with_reducible rfl))
                            simp only [Act.put, List.setIfInBounds_toArray, List.set_cons_zero, List.set_cons_succ]
                            refine take_first 20 74 (v := ?vsyf0_21) rfl rfl (by kernel_rfl) (by kernel_rfl) (by kernel_rfl) (fun _ _ _ h => h) (by rfl) ?ysyf0_21 (by assumption) ?rsyf0_21
                            case ysyf0_21 => (intro w hSw; (try dsimp only at hSw); go_simp; (try with_reducible rfl))
                            simp only [Act.put, List.setIfInBounds_toArray, List.set_cons_zero, List.set_cons_succ]
                            refine take_first 21 75 (v := ?vsyf0_22) rfl rfl (by kernel_rfl) (by kernel_rfl) (by kernel_rfl) (fun _ _ _ h => h) (by rfl) ?ysyf0_22 (by assumption) ?rsyf0_22
                            case ysyf0_22 => (intro w hSw; (try dsimp only at hSw); go_simp; (try with_reducible rfl))
                            simp only [Act.put, List.setIfInBounds_toArray, List.set_cons_zero, List.set_cons_succ]
                            refine take_first 22 76 (v := ?vsyf0_23) rfl rfl (by kernel_rfl) (by kernel_rfl) (by kernel_rfl) (fun _ _ _ h => h) (by rfl) ?ysyf0_23 (by assumption) ?rsyf0_23
                            case ysyf0_23 => (intro w hSw; (try dsimp only at hSw); go_simp; (try with_reducible rfl))
                            simp only [Act.put, List.setIfInBounds_toArray, List.set_cons_zero, List.set_cons_succ]
                            refine wpAnyH_ready (rs := [23]) (by kernel_rfl) (by simp) ?_
                            refine AllReadyH.cons (o := _) rfl (fun Ksyf0_24 hKsyf0_24 => ?csyf0_24) ?msyf0_24
                            case msyf0_24 => exact AllReadyH.nil
                            go_simp
                            refine (l6Places_any _ _ yc (ints_row.1 (HCr.out _ HWb.out).1)).mono ?_; rintro e wc ⟨rfl, hbc⟩; rw [hC]; have HWe := Lib.hid (HWb.out.trans (hbc.mono HWb.out.size)); replace k0 := And.intro (HTp.out _ HWe.out j z HZj.out) (HAl.out _ HWe.out); clear hbc
                            go_wp2_with fail
                            refine hKsyf0_24.out _ _ ?ksyf0_24 (fun hHeldsyf0_24 => ?dsyf0_24)
                            case ksyf0_24 => (first | (dsimp only; (first | with_reducible exact k0 | exact k0)) | (first | with_reducible exact k0 | exact k0))
                            clear hKsyf0_24 Ksyf0_24
                            refine take_first 24 78 (v := ?vsyf0_25) rfl rfl (by kernel_rfl) (by kernel_rfl) (by kernel_rfl) (fun _ _ _ h => h) (by rfl) ?ysyf0_25 (by assumption) ?rsyf0_25
                            case ysyf0_25 => (intro w hSw; (try dsimp only at hSw); go_simp; (try with_reducible rfl))
                            simp only [Act.put, List.setIfInBounds_toArray, List.set_cons_zero, List.set_cons_succ]
                            refine take_first 25 79 (v := ?vsyf0_26) rfl rfl (by kernel_rfl) (by kernel_rfl) (by kernel_rfl) (fun _ _ _ h => h) (by rfl) ?ysyf0_26 (by assumption) ?rsyf0_26
                            case ysyf0_26 => (intro w hSw; (try dsimp only at hSw); go_simp; (try with_reducible rfl))
                            simp only [Act.put, List.setIfInBounds_toArray, List.set_cons_zero, List.set_cons_succ]
                            refine take_first 26 80 (v := ?vsyf0_27) rfl rfl (by kernel_rfl) (by kernel_rfl) (by kernel_rfl) (fun _ _ _ h => h) (by rfl) ?ysyf0_27 (by assumption) ?rsyf0_27
                            case ysyf0_27 => (intro w hSw; (try dsimp only at hSw); go_simp; (try with_reducible rfl))
                            simp only [Act.put, List.setIfInBounds_toArray, List.set_cons_zero, List.set_cons_succ]
                            refine take_first 27 81 (v := ?vsyf0_28) rfl rfl (by kernel_rfl) (by kernel_rfl) (by kernel_rfl) (fun _ _ _ h => h) (by rfl) ?ysyf0_28 (by assumption) ?rsyf0_28
                            case ysyf0_28 => (intro w hSw; (try dsimp only at hSw); go_simp; (try with_reducible rfl))
                            simp only [Act.put, List.setIfInBounds_toArray, List.set_cons_zero, List.set_cons_succ]
                            refine take_first 28 82 (v := ?vsyf0_29) rfl rfl (by kernel_rfl) (by kernel_rfl) (by kernel_rfl) (fun _ _ _ h => h) (by rfl) ?ysyf0_29 (by assumption) ?rsyf0_29
                            case ysyf0_29 => (intro w hSw; (try dsimp only at hSw); go_simp; (try with_reducible rfl))
                            simp only [Act.put, List.setIfInBounds_toArray, List.set_cons_zero, List.set_cons_succ]
                            refine wpAnyH_ready (rs := [29]) (by kernel_rfl) (by simp) ?_
                            refine AllReadyH.cons (o := _) rfl (fun Ksyf0_30 hKsyf0_30 => ?csyf0_30) ?msyf0_30
                            case msyf0_30 => exact AllReadyH.nil
                            go_simp
                            refine (l6Places_any _ _ yk (ints_row.1 (HCr.out _ HWe.out).2)).mono ?_; rintro e wd ⟨rfl, hbd⟩; rw [hD]; have HWf := Lib.hid (HWe.out.trans (hbd.mono HWe.out.size)); replace k0 := And.intro (HTp.out _ HWf.out j z HZj.out) (HAl.out _ HWf.out); clear hbd
                            go_wp2_with fail
                            refine hKsyf0_30.out _ _ ?ksyf0_30 (fun hHeldsyf0_30 => ?dsyf0_30)
                            case ksyf0_30 => (first | (dsimp only; (first | with_reducible exact k0 | exact k0)) | (first | with_reducible exact k0 | exact k0))
                            clear hKsyf0_30 Ksyf0_30
                            refine take_first 30 84 (v := ?vsyf0_31) rfl rfl (by kernel_rfl) (by kernel_rfl) (by kernel_rfl) (fun _ _ _ h => h) (by rfl) ?ysyf0_31 (by assumption) ?rsyf0_31
                            case ysyf0_31 => (intro w hSw; (try dsimp only at hSw); go_simp; (try with_reducible rfl))
                            simp only [Act.put, List.setIfInBounds_toArray, List.set_cons_zero, List.set_cons_succ]
                            refine take_first 31 85 (v := ?vsyf0_32) rfl rfl (by kernel_rfl) (by kernel_rfl) (by kernel_rfl) (fun _ _ _ h => h) (by rfl) ?ysyf0_32 (by assumption) ?rsyf0_32
                            case ysyf0_32 => (intro w hSw; (try dsimp only at hSw); go_simp; (try with_reducible rfl))
                            simp only [Act.put, List.setIfInBounds_toArray, List.set_cons_zero, List.set_cons_succ]
                            refine take_first 32 86 (v := ?vsyf0_33) rfl rfl (by kernel_rfl) (by kernel_rfl) (by kernel_rfl) (fun _ _ _ h => h) (by rfl) ?ysyf0_33 (by assumption) ?rsyf0_33
                            case ysyf0_33 => (intro w hSw; (try dsimp only at hSw); go_simp; (try with_reducible rfl))
                            simp only [Act.put, List.setIfInBounds_toArray, List.set_cons_zero, List.set_cons_succ]
                            refine take_first 33 87 (v := ?vsyf0_34) rfl rfl (by kernel_rfl) (by kernel_rfl) (by kernel_rfl) (fun _ _ _ h => h) (by rfl) ?ysyf0_34 (by assumption) ?rsyf0_34
                            case ysyf0_34 => (intro w hSw; (try dsimp only at hSw); go_simp; (try with_reducible rfl))
                            simp only [Act.put, List.setIfInBounds_toArray, List.set_cons_zero, List.set_cons_succ]
                            refine take_first 34 88 (v := ?vsyf0_35) rfl rfl (by kernel_rfl) (by kernel_rfl) (by kernel_rfl) (fun _ _ _ h => h) (by rfl) ?ysyf0_35 (by assumption) ?rsyf0_35
                            case ysyf0_35 => (intro w hSw; (try dsimp only at hSw); go_simp; (try with_reducible rfl))
                            simp only [Act.put, List.setIfInBounds_toArray, List.set_cons_zero, List.set_cons_succ]
                            refine take_first 35 89 (v := ?vsyf0_36) rfl rfl (by kernel_rfl) (by kernel_rfl) (by kernel_rfl) (fun _ _ _ h => h) (by rfl) ?ysyf0_36 (by assumption) ?rsyf0_36
                            case ysyf0_36 => (intro w hSw; (try dsimp only at hSw); go_simp; (try with_reducible rfl))
                            simp only [Act.put, List.setIfInBounds_toArray, List.set_cons_zero, List.set_cons_succ]
                            refine take_first 36 90 (v := ?vsyf0_37) rfl rfl (by kernel_rfl) (by kernel_rfl) (by kernel_rfl) (fun _ _ _ h => h) (by rfl) ?ysyf0_37 (by assumption) ?rsyf0_37
                            case ysyf0_37 => (intro w hSw; (try dsimp only at hSw); go_simp; (try with_reducible rfl))
                            simp only [Act.put, List.setIfInBounds_toArray, List.set_cons_zero, List.set_cons_succ]
                            refine take_first 37 91 (v := ?vsyf0_38) rfl rfl (by kernel_rfl) (by kernel_rfl) (by kernel_rfl) (fun _ _ _ h => h) (by rfl) ?ysyf0_38 (by assumption) ?rsyf0_38
                            case ysyf0_38 => (intro w hSw; (try dsimp only at hSw); go_simp; (try with_reducible rfl))
                            simp only [Act.put, List.setIfInBounds_toArray, List.set_cons_zero, List.set_cons_succ]
                            refine take_first 38 92 (v := ?vsyf0_39) rfl rfl (by kernel_rfl) (by kernel_rfl) (by kernel_rfl) (fun _ _ _ h => h) (by rfl) ?ysyf0_39 (by assumption) ?rsyf0_39
                            case ysyf0_39 => (intro w hSw; (try dsimp only at hSw); go_simp; (try with_reducible rfl))
                            simp only [Act.put, List.setIfInBounds_toArray, List.set_cons_zero, List.set_cons_succ]
                            refine take_first 39 93 (v := ?vsyf0_40) rfl rfl (by kernel_rfl) (by kernel_rfl) (by kernel_rfl) (fun _ _ _ h => h) (by rfl) ?ysyf0_40 (by assumption) ?rsyf0_40
                            case ysyf0_40 => (intro w hSw; (try dsimp only at hSw); go_simp; (try with_reducible rfl))
                            simp only [Act.put, List.setIfInBounds_toArray, List.set_cons_zero, List.set_cons_succ]
                            refine wpAnyH_ready (rs := [40]) (by kernel_rfl) (by simp) ?_
                            refine AllReadyH.cons (o := _) rfl (fun Ksyf0_41 hKsyf0_41 => ?csyf0_41) ?msyf0_41
                            case msyf0_41 => exact AllReadyH.nil
                            go_simp
                            refine (l2Of_any _ _ _ x.disk.notes yt (HNr.out _ (HGo.out _ HWf.out))).mono ?_; rintro e we ⟨rfl, rfl⟩
                            go_wp2_with fail
                            refine hKsyf0_41.out _ _ ?ksyf0_41 (fun hHeldsyf0_41 => ?dsyf0_41)
                            case ksyf0_41 => (first | (dsimp only; (first | with_reducible exact k0 | exact k0)) | (first | with_reducible exact k0 | exact k0))
                            clear hKsyf0_41 Ksyf0_41
                            refine take_first 41 95 (v := ?vsyf0_42) rfl rfl (by kernel_rfl) (by kernel_rfl) (by kernel_rfl) (fun _ _ _ h => h) (by rfl) ?ysyf0_42 (by assumption) ?rsyf0_42
                            case ysyf0_42 => (intro w hSw; (try dsimp only at hSw); go_simp; (try with_reducible rfl))
                            simp only [Act.put, List.setIfInBounds_toArray, List.set_cons_zero, List.set_cons_succ]
                            refine take_first 42 96 (v := ?vsyf0_43) rfl rfl (by kernel_rfl) (by kernel_rfl) (by kernel_rfl) (fun _ _ _ h => h) (by rfl) ?ysyf0_43 (by assumption) ?rsyf0_43
                            case ysyf0_43 => (intro w hSw; (try dsimp only at hSw); go_simp; (try with_reducible rfl))
                            simp only [Act.put, List.setIfInBounds_toArray, List.set_cons_zero, List.set_cons_succ]
                            refine take_first 43 97 (v := ?vsyf0_44) rfl rfl (by kernel_rfl) (by kernel_rfl) (by kernel_rfl) (fun _ _ _ h => h) (by rfl) ?ysyf0_44 (by assumption) ?rsyf0_44
                            case ysyf0_44 => (intro w hSw; (try dsimp only at hSw); go_simp; (try with_reducible rfl))
                            simp only [Act.put, List.setIfInBounds_toArray, List.set_cons_zero, List.set_cons_succ]
                            refine wpAnyH_done (by kernel_rfl) ?esyf0 _
                            clear k0
                            obtain ⟨-, -, -, q1, q2, q3, q4, q5, q6, q7, q8, -, q10⟩ := HAl.out _ HWf.out
                            go_wp2_with fail
                            clear q1 q2 q3 q4 q5 q6 q7 q8 q10
                            refine (specOpOk_any _ yo).mono ?_
                            rintro e wg ⟨rfl, hbg⟩
                            have HWg := Lib.hid (HWf.out.trans (hbg.mono HWf.out.size))
                            obtain ⟨-, -, -, -, -, -, -, -, -, -, -, -, q10⟩ := HAl.out _ HWg.out
                            clear hbg
                            cases hP : opB yo with
                            | false =>
                              have HNo := Lib.hid (show froB x = false from fro_false (.inr (.inr (.inr (by rw [HI.out, HW.out, HVf.out, hP]; rfl)))))
                              have HBz := Lib.hid (HYr.out _ (HGo.out _ HWg.out)).2
                              clear hP
                              go_wp2
                              go_ret
                              exact ⟨ret_bool HNo.out.symm, HBz.out⟩
                            | true =>
                              by_cases hk0 : yk.length = 0
                              · have ha : actB ⟨yt, yo, false, yc, yk⟩ (lastK x.disk.notes yt == 2) = true := by rw [HVf.out, hP]; simp [hk0]
                                have HSt := Lib.hid (show wayB x.disk.notes (-1) x.way = wayB x.disk.notes (pvT x.way (k + 1)) (x.way.drop (k + 1)) by
                                  rw [HI.out, HW.out, ha, HPv.out, show decide (z.tx < yt) = true by simp; omega]; rfl)
                                have HBz := Lib.hid (HGo.out _ HWg.out)
                                have hk3 : ¬ (0 : Int) < (yk.length : Int) := by omega
                                have hk4 : ¬ 0 < yk.length := by omega
                                clear ha hP hk0
                                go_wp2
                                go_roundw
                                case rel => exact ⟨k + 1, by omega, by go_num, HSt.out, HBz.out⟩
                                case measure => simp [intOf]; omega
                              · have HNo := Lib.hid (show froB x = false from fro_false (.inr (.inr (.inr (by rw [HI.out, HW.out, HVf.out, hP]; simp [hk0])))))
                                have HBz := Lib.hid (HYr.out _ (HGo.out _ HWg.out)).2
                                have hk3 : (0 : Int) < (yk.length : Int) := by omega
                                have hk4 : 0 < yk.length := by omega
                                clear hP hk0
                                go_wp2
                                go_ret
                                exact ⟨ret_bool HNo.out.symm, HBz.out⟩
            · have hki : ¬ (k : Int) < (x.way.length : Int) := by omega
              have HE := Lib.hid (fro_true HD.out HOu.out HL.out (by rw [HI.out]; exact way_end (by omega) _))
              have HBz := Lib.hid (HYr.out _ HBr.out).2
              go_wp2
              go_ret
              exact ⟨ret_bool HE.out.symm, HBz.out⟩

end Go.Proofs.Ytecdibpiojgppaa
