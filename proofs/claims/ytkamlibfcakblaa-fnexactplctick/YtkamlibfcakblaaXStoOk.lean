/- Texts that follow each other, merged: StoOk, StoOkS, Find. -/
import Derived.Test.YtkamlibfcakblaaXKey
import Derived.Test.YtkamlibfcakblaaXPlain
import Derived.Deep.QuietTactic
import Derived.BigQuiet
import Derived.Deep.RegionHeld3
import Derived.WalkLawsBesides
import Derived.Test.YtkamlibfcakblaaXFrameRow
import Derived.Lib.Walk

/- What StoOk answers, of the program and of the model: the same bool of every list of things. -/
namespace Go.Proofs.Ytkamlibfcakblaa
open Go.RowKit

theorem sortKey_any (w : World) (key : ByteArray) (A : Option Addr) (n c : Nat) :
    Calls Try.prog 173 #[.agg #[.string key, .slice A n c]] w fun e w' => e = .returned (.string key) ∧ Below w.heap.size w w' := by
  go_enter Try.func173, Try.ntmps173
  go_wp2
  go_ret
  exact ⟨rfl, belowOne _ _⟩

theorem method_sortKey (key : ByteArray) (A : Option Addr) (n c : Nat) (w : World) :
    (method 285 104 (.agg #[.string key, .slice A n c]) "loop.example/janitor/impl.sortKey").run Try.prog w = .ok (173, .agg #[.string key, .slice A n c]) w := by kernel_rfl

set_option maxRecDepth 100000 in
theorem ascends_any (w : World) (v : Value) (its : List Item) (hv : Items w w.heap.size v its) :
    Calls Try.prog 87 #[v] w fun e w' => e = .returned (.bool (ascB its)) ∧ Below w.heap.size w w' := by
  obtain ⟨A, c, rfl, hc2, hc1⟩ := hv.form
  unfold maxLen at hc2
  go_enter Try.func87, Try.ntmps87
  go_wp2
  go_loopw [3] (fun i wr => ∃ k : Nat, 1 ≤ k ∧ (k ≤ its.length ∨ k = 1) ∧ i = .int .i64 k ∧ Rise its k ∧ Below w.heap.size w wr) (fun i _ => its.length - (intOf i).toNat)
  case atStart => exact ⟨1, Nat.le_refl _, .inr rfl, rfl, Rise.start its, Below.refl _ _⟩
  case round =>
    obtain ⟨k, hk1, hk, rfl, hr, hb⟩ := hrel
    by_cases hlt : k < its.length
    · obtain ⟨j, hj⟩ : ∃ j, k = j + 1 := ⟨k - 1, by omega⟩
      obtain ⟨b, off, c', it, u, e1, hit, hB, hs, ck, cu, hu⟩ := hv.at_ (k := j) (by omega)
      obtain ⟨b2, off2, c2', it2, u2, e2, hit2, hB2, hs2, ck2, cu2, hu2⟩ := hv.at_ (k := k) hlt
      obtain ⟨A', n', c'', hu'⟩ : ∃ A' n' c'', u = .slice A' n' c'' := by obtain ⟨A', c', h, _⟩ := hu.form; exact ⟨_, _, _, h⟩
      obtain ⟨A2', n2', c2'', hu2'⟩ : ∃ A' n' c'', u2 = .slice A' n' c'' := by obtain ⟨A', c', h, _⟩ := hu2.form; exact ⟨_, _, _, h⟩
      subst hu' hu2'
      injection e1 with e1a e1b e1c
      injection e2 with e2a e2b e2c
      rw [e1a] at e2a
      injection e2a with e2a
      injection e2a with e2a e2d
      subst e2a e2d e1a
      clear e1b e1c e2b e2c hv hu hu2 hk
      have HI := Lib.hid hit
      have HI2 := Lib.hid hit2
      have HS := Lib.hid fun (x : World) (hx : Below w.heap.size w x) => And.intro ((hx.cell (p := ⟨b, off + j * 2, none⟩) hB).trans ck) (And.intro ((hx.cell (p := ⟨b, off + j * 2 + 1, none⟩) hB).trans cu) (And.intro ((hx.cell (p := ⟨b, off + k * 2, none⟩) hB).trans ck2) ((hx.cell (p := ⟨b, off + k * 2 + 1, none⟩) hB).trans cu2)))
      obtain ⟨d1, d2, d3, d4⟩ := HS.out wr hb
      have f1 : (0 : Int) ≤ (j : Int) := by omega
      have f2 : (j : Int) < (its.length : Int) := by omega
      have f3 : (0 : Int) ≤ (k : Int) := by omega
      have f4 : (k : Int) < (its.length : Int) := by omega
      have f5 : IntKind.i64.wrap ((k : Int) - 1) = (j : Int) := by rw [IntWalk.i64_in _ (by omega)]; omega
      have HJ := Lib.hid hj
      have hb0 := hb.drew
      have m1 := method_sortKey
      clear ck cu ck2 cu2 hit hit2 hj
      rcases hlo : ltB it.key it2.key
      · have HK := Lib.hid (asc_fall HI.out (HJ.out ▸ HI2.out) hlo)
        unfold ltB at hlo
        go_wp2
        go_region_held3 (fun w' => w'.cell? ⟨b, off + j * 2, none⟩ = some (.string it.key) ∧ w'.cell? ⟨b, off + j * 2 + 1, none⟩ = some (.slice A' n' c'') ∧ w'.cell? ⟨b, off + k * 2, none⟩ = some (.string it2.key) ∧ w'.cell? ⟨b, off + k * 2 + 1, none⟩ = some (.slice A2' n2' c2''))
          (first | exact HS.out _ hb0 | exact HS.out _ (by assumption))
          (first | (go_at_call 173; refine (sortKey_any _ _ _ _ _).mono ?_; rintro e w' ⟨rfl, hb'⟩; have hq := belowNext (by assumption) hb'; clear hb'))
        clear f5
        go_wp2
        go_ret
        exact ⟨ret_bool HK.out.symm, by assumption⟩
      · have HR := Lib.hid (Rise.step (HJ.out ▸ hr) HI.out (HJ.out ▸ HI2.out) hlo)
        unfold ltB at hlo
        go_wp2
        go_region_held3 (fun w' => w'.cell? ⟨b, off + j * 2, none⟩ = some (.string it.key) ∧ w'.cell? ⟨b, off + j * 2 + 1, none⟩ = some (.slice A' n' c'') ∧ w'.cell? ⟨b, off + k * 2, none⟩ = some (.string it2.key) ∧ w'.cell? ⟨b, off + k * 2 + 1, none⟩ = some (.slice A2' n2' c2''))
          (first | exact HS.out _ hb0 | exact HS.out _ (by assumption))
          (first | (go_at_call 173; refine (sortKey_any _ _ _ _ _).mono ?_; rintro e w' ⟨rfl, hb'⟩; have hq := belowNext (by assumption) hb'; clear hb'))
        clear f5
        go_wp2
        go_roundw
        case rel => exact ⟨k + 1, by omega, .inl (by omega), by go_num, by rw [HJ.out]; exact HR.out, by assumption⟩
        case measure => simp [intOf]; omega
    · have HK := Lib.hid (rise_asc (its := its) (by
        rcases hk with h | h
        · rw [show its.length = k by omega]; exact hr
        · intro j a b h' _ _; omega))
      go_wp2
      go_ret
      exact ⟨ret_bool HK.out.symm, hb⟩

set_option maxRecDepth 100000 in
theorem implStoOk_any (w : World) (v : Value) (its : List Item) (hv : Items w w.heap.size v its) :
    Calls Try.prog 37 #[.agg #[v]] w fun e w' => e = .returned (.bool (stoB its)) ∧ Below w.heap.size w w' := by
  obtain ⟨A, c, rfl, hc2, hc1⟩ := hv.form
  unfold maxLen at hc2
  by_cases hlen : 40 < its.length
  · have HK := Lib.hid (stoB_long hlen)
    clear hv
    go_enter Try.func37, Try.ntmps37
    go_wp2
    go_ret
    exact ⟨ret_bool HK.out.symm, belowOne _ _⟩
  · have h40 : its.length ≤ 40 := by omega
    have HV := Lib.hid (hv.alloc (Nat.le_refl _) (.cells #[.slice A its.length c] 54))
    have HBx := Lib.hid (Held.new w #[.slice A its.length c] 54)
    have HWx := Lib.hid (belowOne w (.cells #[.slice A its.length c] 54))
    clear hv hlen
    go_enter Try.func37, Try.ntmps37
    go_wp2
    generalize w.alloc (.cells #[.slice A its.length c] 54) = w0 at *
    go_loopw [12] (fun i wr => ∃ k : Nat, k ≤ its.length ∧ i = .int .i64 k ∧ Each its k ∧ Below w0.heap.size w0 wr) (fun i _ => its.length - (intOf i).toNat)
    case atStart => exact ⟨0, Nat.zero_le _, rfl, Each.start its, Below.refl _ _⟩
    case round =>
      obtain ⟨k, hk, rfl, he, hb⟩ := hrel
      have hzw : w.heap.size < w0.heap.size := HBx.out.1
      have hzr : w0.heap.size ≤ wr.heap.size := hb.size
      have HBr := Lib.hid (HBx.out.below hb hzw)
      have HWr := Lib.hid (HWx.out.trans (hb.mono (Nat.le_of_lt hzw)))
      have HVr := Lib.hid (HV.out.below (hb.mono (Nat.le_of_lt hzw)))
      have HBw := Lib.hid hb
      clear hb
      by_cases hlt : k < its.length
      · obtain ⟨b, off, c', it, u, e1, hit, hB, hs, ck, cu, hu⟩ := HVr.out.at_ (k := k) hlt
        obtain ⟨A', c'', hu', _, _⟩ := hu.form
        subst hu'
        injection e1 with e1a e1b e1c
        subst e1a
        clear e1b e1c
        have HI := Lib.hid hit
        have HU := Lib.hid fun o => hu.alloc (Nat.le_of_lt (Nat.lt_of_lt_of_le hzw hzr)) o
        clear hit hu HVr
        rcases hkb : keyB it.key
        · have HK := Lib.hid (stoB_bad HI.out (itemB_key hkb))
          go_wp2_with (go_at_call 85; refine (keyOk_any _ _ hs).mono ?_; rintro e w' ⟨rfl, rfl⟩)
          go_ret
          exact ⟨ret_bool HK.out.symm, HWr.out.alloc (by omega) _⟩
        · rcases hvb : valB it.val
          · have HK := Lib.hid (stoB_bad HI.out (itemB_val hvb))
            go_wp2_with (first | (go_at_call 85; refine (keyOk_any _ _ hs).mono ?_; rintro e w' ⟨rfl, rfl⟩) | (go_at_call 86; refine (numbersOk_any _ _ _ _ (HU.out _)).mono ?_; rintro e w' ⟨rfl, rfl⟩))
            go_ret
            exact ⟨ret_bool HK.out.symm, HWr.out.alloc (by omega) _⟩
          · have HE := Lib.hid (he.step HI.out (itemB_yes hkb hvb))
            go_wp2_with (first | (go_at_call 85; refine (keyOk_any _ _ hs).mono ?_; rintro e w' ⟨rfl, rfl⟩) | (go_at_call 86; refine (numbersOk_any _ _ _ _ (HU.out _)).mono ?_; rintro e w' ⟨rfl, rfl⟩))
            go_roundw
            case rel => exact ⟨k + 1, by omega, by go_num, HE.out, HBw.out.alloc (by omega) _⟩
            case measure => simp [intOf]; omega
      · have HK := Lib.hid (stoB_each h40 ((show k = its.length by omega) ▸ he))
        have c0 := HBr.out.of 0 _ rfl
        go_wp2_with (go_at_call 87; refine (ascends_any _ _ _ (HVr.out.more (by omega))).mono ?_; rintro e w1 ⟨rfl, hb1⟩)
        go_ret
        exact ⟨ret_bool HK.out.symm, belowNext HWr.out hb1⟩

end Go.Proofs.Ytkamlibfcakblaa

/- What the model's StoOk answers. -/
namespace Go.Proofs.Ytkamlibfcakblaa
open Go.RowKit

theorem quietOf {P : Program} {f : FuncId} {args : Array Value} {w : World} {n : Nat} {v : Value}
    (h : Calls P f args (w.drewN n) fun e w' => e = .returned v ∧ w.drewN n = w') : Calls P f args (w.drewN n) fun e w'' => e = .returned v ∧ ∃ m, w'' = w.drewN m :=
  h.mono fun _ _ ⟨he, hm⟩ => ⟨he, n, hm.symm⟩

set_option maxRecDepth 100000 in
set_option maxHeartbeats 1000000 in
theorem specStoOk_any (w : World) (v : Value) (its : List Item) (hv : Items w w.heap.size v its) :
    Calls Try.prog 120 #[.agg #[v]] w fun e w' => e = .returned (.bool (stoB its)) ∧ Below w.heap.size w w' := by
  obtain ⟨A, c, rfl, hc2, hc1⟩ := hv.form
  unfold maxLen at hc2
  by_cases hlen : 40 < its.length
  · have HK := Lib.hid (stoB_long hlen)
    clear hv
    go_enter Try.func120, Try.ntmps120
    go_wp2
    go_ret
    exact ⟨ret_bool HK.out.symm, belowOne _ _⟩
  · have h40 : its.length ≤ 40 := by omega
    have HV := Lib.hid (hv.alloc (Nat.le_refl _) (.cells #[.slice A its.length c] 54))
    have HBx := Lib.hid (Held.new w #[.slice A its.length c] 54)
    have HWx := Lib.hid (belowOne w (.cells #[.slice A its.length c] 54))
    clear hv hlen
    go_enter Try.func120, Try.ntmps120
    go_wp2
    generalize w.alloc (.cells #[.slice A its.length c] 54) = w0 at *
    go_loopw [3] (fun i wr => ∃ k : Nat, k ≤ its.length ∧ i = .int .i64 k ∧ Each its k ∧ Rise its k ∧ Below w0.heap.size w0 wr) (fun i _ => its.length - (intOf i).toNat)
    case atStart => exact ⟨0, Nat.zero_le _, rfl, Each.start its, Rise.zero its, Below.refl _ _⟩
    case round =>
      obtain ⟨k, hk, rfl, he, hr, hb⟩ := hrel
      have hzw : w.heap.size < w0.heap.size := HBx.out.1
      have hzr : w0.heap.size ≤ wr.heap.size := hb.size
      have HWr := Lib.hid (HWx.out.trans (hb.mono (Nat.le_of_lt hzw)))
      have HVr := Lib.hid (HV.out.below (hb.mono (Nat.le_of_lt hzw)))
      have c0 := (HBx.out.below hb hzw).of 0 _ rfl
      have HBw := Lib.hid hb
      clear hb
      by_cases hlt : k < its.length
      · obtain ⟨b, off, c', it, u, e1, hit, hB, hs, ck, cu, hu⟩ := HVr.out.at_ (k := k) hlt
        have HVp := Lib.hid fun (j : Nat) (hj : j < its.length) => HVr.out.at_ (k := j) hj
        obtain ⟨A', c'', hu', _, _⟩ := hu.form
        subst hu'
        injection e1 with e1a e1b e1c
        subst e1a
        clear e1b e1c
        have HI := Lib.hid hit
        have HU := Lib.hid fun n => hu.drewN n
        clear hit hu HVr
        rcases hkb : keyB it.key
        · have HK := Lib.hid (stoB_bad HI.out (itemB_key hkb))
          go_wp2
          go_quiet ((go_at_call 106; exact quietOf (l1Key_any _ _ hs)))
          go_wp2
          go_ret
          exact ⟨ret_bool HK.out.symm, belowDraws HWr.out _⟩
        · rcases hvb : valB it.val
          · have HK := Lib.hid (stoB_bad HI.out (itemB_val hvb))
            go_wp2
            go_quiet ((first | (go_at_call 106; exact quietOf (l1Key_any _ _ hs)) | (go_at_call 134; exact quietOf (l1Val_any _ _ _ _ (HU.out _)))))
            go_wp2
            go_ret
            exact ⟨ret_bool HK.out.symm, belowDraws HWr.out _⟩
          · have HE := Lib.hid (he.step HI.out (itemB_yes hkb hvb))
            by_cases hk0 : k = 0
            · have HR := Lib.hid (show Rise its (k + 1) from hk0 ▸ Rise.start its)
              have hg : decide (0 < k) = false := by simp; omega
              have hg' : decide ((0 : Int) < (k : Int)) = false := by simp; omega
              clear hk0
              go_wp2
              go_quiet ((first | (go_at_call 106; exact quietOf (l1Key_any _ _ hs)) | (go_at_call 134; exact quietOf (l1Val_any _ _ _ _ (HU.out _)))))
              go_wp2
              go_roundw
              case rel => exact ⟨k + 1, by omega, by go_num, HE.out, HR.out, belowDraws HBw.out _⟩
              case measure => simp [intOf]; omega
            · obtain ⟨j, hj⟩ : ∃ j, k = j + 1 := ⟨k - 1, by omega⟩
              obtain ⟨b2, off2, c2', it2, u2, e2, hit2, hB2, hs2, ck2, cu2, hu2⟩ := HVp.out j (by omega)
              injection e2 with e2a e2b e2c
              injection e2a with e2a
              injection e2a with e2a e2d
              subst e2a e2d
              clear e2b e2c hu2 cu2
              have HI2 := Lib.hid hit2
              have HJ := Lib.hid hj
              have g1 : (0 : Int) < (k : Int) := by omega
              have g2 : 0 < k := by omega
              have f1 : (0 : Int) ≤ (j : Int) := by omega
              have f2 : (j : Int) < (its.length : Int) := by omega
              have f3 : (0 : Int) ≤ (k : Int) := by omega
              have f4 : (k : Int) < (its.length : Int) := by omega
              have f5 : IntKind.i64.wrap ((k : Int) - 1) = (j : Int) := by rw [IntWalk.i64_in _ (by omega)]; omega
              clear hit2 hj hk0
              rcases hlo : ltB it2.key it.key
              · have HK := Lib.hid (stoB_fall HI2.out (HJ.out ▸ HI.out) hlo)
                unfold ltB at hlo
                go_wp2
                go_quiet ((first | (go_at_call 106; exact quietOf (l1Key_any _ _ hs)) | (go_at_call 134; exact quietOf (l1Val_any _ _ _ _ (HU.out _)))))
                clear f5
                go_wp2
                go_ret
                exact ⟨ret_bool HK.out.symm, belowDraws HWr.out _⟩
              · have HR := Lib.hid (Rise.step (HJ.out ▸ hr) HI2.out (HJ.out ▸ HI.out) hlo)
                unfold ltB at hlo
                go_wp2
                go_quiet ((first | (go_at_call 106; exact quietOf (l1Key_any _ _ hs)) | (go_at_call 134; exact quietOf (l1Val_any _ _ _ _ (HU.out _)))))
                clear f5
                go_wp2
                go_roundw
                case rel => exact ⟨k + 1, by omega, by go_num, HE.out, by rw [HJ.out]; exact HR.out, belowDraws HBw.out _⟩
                case measure => simp [intOf]; omega
      · have HK := Lib.hid (stoB_yes h40 ((show k = its.length by omega) ▸ he) ((show k = its.length by omega) ▸ hr))
        go_wp2
        go_ret
        exact ⟨ret_bool HK.out.symm, HWr.out⟩

end Go.Proofs.Ytkamlibfcakblaa

/- The binary search of the program: where a name is, or would have to be. -/
namespace Go.Proofs.Ytkamlibfcakblaa
open Go.RowKit

theorem cmp_run (a b : ByteArray) (w : World) : (callFunc 154 #[.string a, .string b]).run Try.prog w = .ok (.value (.int .i64 (cmpB a b))) w := by
  rw [run_callFunc_extern Try.func154 (by kernel_rfl) (by kernel_rfl) (by kernel_rfl) (e := Extern.BytealgCompare.compare) (by kernel_rfl), Lib.run_compareString]
  rfl

theorem compare_any (a b : ByteArray) (w : World) :
    Calls Try.prog 140 #[.string a, .string b] w fun e w' => e = .returned (.int .i64 (cmpB a b)) ∧ w = w' := by
  have h := cmp_run
  go_enter Try.func140, Try.ntmps140
  go_wp2
  go_ret
  exact ⟨rfl, rfl⟩

theorem cmpItem_any (w : World) (k key : ByteArray) (A : Option Addr) (n c : Nat) :
    Calls Try.prog 139 #[.agg #[.string k, .slice A n c], .string key] w fun e w' => e = .returned (.int .i64 (cmpB k key)) ∧ Below w.heap.size w w' := by
  have m1 := method_sortKey
  go_enter Try.func139, Try.ntmps139
  go_wp2_with (first | (go_at_call 173; refine (sortKey_any _ _ _ _ _).mono ?_; rintro e w' ⟨rfl, hb'⟩; have hq := belowNext (belowOne _ _) hb'; clear hb') | (go_at_call 140; refine (compare_any _ _ _).mono ?_; rintro e w' ⟨rfl, rfl⟩))
  go_ret
  exact ⟨rfl, by assumption⟩

set_option maxRecDepth 100000 in
set_option maxHeartbeats 1000000 in
theorem search_any (w : World) (v : Value) (its : List Item) (key : ByteArray) (hv : Items w w.heap.size v its) (hlen : its.length ≤ 1048576) (hr : Rise its its.length) :
    Calls Try.prog 138 #[v, .string key, .func (.func 139) #[] #[]] w fun e w' =>
      ∃ i : Nat, i ≤ its.length ∧ Lo its key i ∧ Hi its key i ∧ e = .returned (.tuple #[.int .i64 i, .bool (hitB its key i)]) ∧ Below w.heap.size w w' := by
  obtain ⟨A, c, rfl, hc2, hc1⟩ := hv.form
  unfold maxLen at hc2
  go_enter Try.func138, Try.ntmps138
  go_wp2
  go_loopw [9, 10] (fun a b wr => ∃ i j : Nat, i ≤ j ∧ j ≤ its.length ∧ a = .int .i64 i ∧ b = .int .i64 j ∧ Lo its key i ∧ Hi its key j ∧ Below w.heap.size w wr) (fun a b _ => (intOf b).toNat - (intOf a).toNat)
  case atStart => exact ⟨0, its.length, Nat.zero_le _, Nat.le_refl _, rfl, rfl, Lo.start _ _, Hi.start _ _, Below.refl _ _⟩
  case round =>
    obtain ⟨i, j, hij, hj, rfl, rfl, hlo, hhi, hb⟩ := hrel
    by_cases hlt : i < j
    · obtain ⟨b, off, d, it, x, e1, hit, hB, hks, ck, cu, hx⟩ := (hv.below hb).at_ (k := (i + j) / 2) (by omega)
      obtain ⟨Ax, cx, hxf, _, _⟩ := hx.form
      subst hxf
      injection e1 with e1a e1b e1c
      subst e1a
      clear e1b e1c hx
      have HV := Lib.hid hv
      have HI := Lib.hid hit
      have HR := Lib.hid hr
      clear hv hit
      rcases hl : ltB it.key key
      · have HH := Lib.hid (Hi.mid hr HI.out hl)
        have hc : 0 ≤ cmpB it.key key := by rw [ltB_cmp, decide_eq_false_iff_not] at hl; omega
        clear hl hr
        go_wp2_with (go_at_call 139; refine (cmpItem_any _ _ _ _ _ _).mono ?_; rintro e w1 ⟨rfl, hb1⟩; have hq := belowNext hb hb1; clear hb1)
        go_roundw
        case rel => exact ⟨i, (i + j) / 2, by omega, by omega, rfl, by go_num, hlo, HH.out, by assumption⟩
        case measure => simp [intOf]; omega
      · have HL := Lib.hid (Lo.mid hr HI.out hl)
        have hc : cmpB it.key key < 0 := by rw [ltB_cmp, decide_eq_true_iff] at hl; exact hl
        clear hl hr
        go_wp2_with (go_at_call 139; refine (cmpItem_any _ _ _ _ _ _).mono ?_; rintro e w1 ⟨rfl, hb1⟩; have hq := belowNext hb hb1; clear hb1)
        go_roundw
        case rel => exact ⟨(i + j) / 2 + 1, j, by omega, by omega, by go_num, rfl, HL.out, hhi, by assumption⟩
        case measure => simp [intOf]; omega
    · obtain rfl : i = j := by omega
      by_cases hil : i < its.length
      · obtain ⟨b, off, d, it, x, e1, hit, hB, hks, ck, cu, hx⟩ := (hv.below hb).at_ (k := i) hil
        obtain ⟨Ax, cx, hxf, _, _⟩ := hx.form
        subst hxf
        injection e1 with e1a e1b e1c
        subst e1a
        have HH := Lib.hid (hitB_cmp (key := key) hit)
        clear e1b e1c hx hv hit hr
        go_wp2_with (go_at_call 139; refine (cmpItem_any _ _ _ _ _ _).mono ?_; rintro e w1 ⟨rfl, hb1⟩; have hq := belowNext hb hb1; clear hb1)
        go_ret2
        exact ⟨i, hj, hlo, hhi, by rw [HH.out]; rfl, by assumption⟩
      · have HH := Lib.hid (hitB_end (its := its) (key := key) (i := i) (by omega))
        clear hv hr
        go_wp2
        go_ret2
        exact ⟨i, hj, hlo, hhi, by rw [HH.out]; rfl, hb⟩

theorem find_any (w : World) (v : Value) (its : List Item) (key : ByteArray) (hv : Items w w.heap.size v its) (hlen : its.length ≤ 1048576) (hr : Rise its its.length) :
    Calls Try.prog 123 #[v, .string key] w fun e w' =>
      ∃ i : Nat, i ≤ its.length ∧ Lo its key i ∧ Hi its key i ∧ e = .returned (.tuple #[.int .i64 i, .bool (hitB its key i)]) ∧ Below w.heap.size w w' := by
  go_enter Try.func123, Try.ntmps123
  go_wp2_with fail
  refine (search_any _ _ _ _ hv hlen hr).mono ?_
  rintro e w1 ⟨i, hi, hlo, hhi, rfl, hb⟩
  have HL := Lib.hid hlo
  have HH := Lib.hid hhi
  clear hlo hhi hr hv
  go_wp2
  go_ret2
  exact ⟨i, hi, HL.out, HH.out, rfl, hb⟩

end Go.Proofs.Ytkamlibfcakblaa
