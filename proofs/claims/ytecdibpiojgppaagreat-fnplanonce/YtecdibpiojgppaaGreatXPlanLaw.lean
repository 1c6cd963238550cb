/- Texts that follow each other, merged: PlanLaw, SPlan6, JaInts, SPlan7. -/
import Derived.Test.YtecdibpiojgppaaGreatXGlo
import Derived.Test.YtecdibpiojgppaaGreatXSPlan5
import Derived.Test.YtecdibpiojgppaaGreatXHStoStore
import Derived.Test.YtecdibpiojgppaaGreatXPlain
import Derived.Deep.QuietTactic
import Derived.BigQuiet

/- What plans hold and write. Plain facts. -/
namespace Go.Proofs.YtecdibpiojgppaaGreat
open Go.RowKit

theorem plcB_which {p : Int} {its : List Item} (h : plcB p its = true) : p = 1 ∨ p = 2 ∨ p = 3 := by
  unfold plcB at h
  simp only [Bool.and_eq_true] at h
  have := inB_parts h.1
  omega
section
variable {its : List Item} {tx q : Int} {o : Op}
theorem plcP_ok (h : (plcP its q tx o).ok = true) : opB o = true ∧ plcB q its = true ∧ inB tx 0 29 = true ∧ plcP its q tx o = planP its q tx o := by
  unfold plcP at h ⊢
  by_cases hc : (opB o && (plcB q its && inB tx 0 29)) = true
  · rw [if_pos hc]
    simp only [Bool.and_eq_true] at hc
    exact ⟨hc.1, hc.2.1, hc.2.2, rfl⟩
  · rw [if_neg hc] at h; cases h
theorem plan_here (ho : opB o = true) (hq : q = 1 ∨ q = 2 ∨ q = 3) (h : hereB o.kind q = false) : planP its q tx o = ⟨false, [], []⟩ := by
  have hk := opK_kind ho
  rcases hq with rfl | rfl | rfl
  · unfold hereB at h
    rw [decide_eq_false_iff_not] at h
    unfold planP
    rw [if_neg (by decide), if_pos rfl, if_neg (by omega), if_neg (by omega), if_neg (by omega)]
  · unfold hereB at h
    rw [decide_eq_false_iff_not] at h
    unfold planP
    rw [if_neg (by decide), if_neg (by decide), if_neg (by omega), if_neg (by omega), if_neg (by omega), if_neg (by omega)]
  · unfold hereB at h
    rw [decide_eq_false_iff_not] at h
    omega
theorem plan_in : ∀ x ∈ (planP its q tx o).writes, x.key ∈ (planP its q tx o).locks := by
  unfold planP
  split
  · unfold doneP noP; split <;> simp
  split
  · unfold inP1 inP2 inP5 noP
    repeat' split
    all_goals simp
  split
  · unfold mayP2 noP; split <;> simp
  split
  · unfold mayP3 noP; split <;> simp
  split
  · unfold mayP4 noP; split <;> simp
  split
  · unfold mayP5
    intro x hx
    simp only [List.mem_map] at hx
    obtain ⟨y, hy, rfl⟩ := hx
    exact List.mem_cons_of_mem _ (List.mem_map.2 ⟨y, hy, rfl⟩)
  · simp
end

end Go.Proofs.YtecdibpiojgppaaGreat

/- What the model plans: l3Plan, PlcPlan. By spgen6.py. -/
namespace Go.Proofs.YtecdibpiojgppaaGreat
open Go.RowKit

theorem str_empty (s : ByteArray) : s ++ ⟨#[]⟩ = s := ByteArray.ext (by simp)
/-- A number from 0 to 99, as the model writes it. -/
theorem l3Num_any (w : World) (n : Int) (h0 : 0 ≤ n) (h9 : n ≤ 99) :
    Calls Tryz.prog 88 #[.int .i64 n] w fun e w' => e = .returned (.string (numS n)) ∧ Below w.heap.size w w' := by
  go_enter Tryz.func88, Tryz.ntmps88
  go_wp2
  go_loopw [0, 3] (fun i o wr => ∃ (m : Int) (s : ByteArray), i = .int .i64 m ∧ o = .string s ∧ 0 ≤ m ∧ m ≤ 99 ∧ s.size ≤ 1 ∧ (m = n ∧ s = ⟨#[]⟩ ∨ 9 < n ∧ m = n / 10 ∧ s = digS (n % 10)) ∧ Below w.heap.size w wr) (fun i _ _ => (intOf i).toNat)
  case atStart => exact ⟨n, _, rfl, rfl, h0, h9, by show (0 : Nat) ≤ 1; omega, .inl ⟨rfl, rfl⟩, Below.refl _ _⟩
  case round =>
    obtain ⟨m, s, rfl, rfl, hm0, hm1, hs, hms, hb⟩ := hrel
    by_cases h : 9 < m
    · have HD := Lib.hid (digS_size (m % 10))
      have hd1 : (digS (m % 10)).size ≤ 1 := by have := HD.out; omega
      have HE : Hid (9 < n ∧ m / 10 = n / 10 ∧ digS (m % 10) ++ s = digS (n % 10)) := Lib.hid (by
        rcases hms with ⟨rfl, rfl⟩ | ⟨h1, rfl, rfl⟩
        · exact ⟨h, rfl, str_empty _⟩
        · omega)
      clear hms
      go_wp2_with (go_at_call 107; refine (l3Digit_any _ _ (by omega) (by omega)).mono ?_; rintro e w1 ⟨rfl, hb1⟩; have hq := belowNext hb hb1; clear hb1)
      go_roundw
      case rel => exact ⟨m / 10, _, by go_num, rfl, by omega, by omega, by rw [HE.out.2.2, digS_size]; omega, .inr HE.out, by assumption⟩
      case measure => simp [intOf]; omega
    · have HD := Lib.hid (digS_size m)
      have hd1 : (digS m).size ≤ 1 := by have := HD.out; omega
      have HE : Hid (digS m ++ s = numS n) := Lib.hid (by
        unfold numS
        rcases hms with ⟨rfl, rfl⟩ | ⟨h1, rfl, rfl⟩
        · rw [if_pos (by omega), str_empty]
        · rw [if_neg (by omega)])
      clear hms
      go_wp2_with (go_at_call 107; refine (l3Digit_any _ _ (by omega) (by omega)).mono ?_; rintro e w1 ⟨rfl, hb1⟩; have hq := belowNext hb hb1; clear hb1)
      go_ret
      exact ⟨by rw [← HE.out]; rfl, by assumption⟩

/-- What lies in memory while l3Plan and PlcPlan of the model plan. -/
def OPC (o : Op) : List Value := [.int .i64 o.kind, .int .i64 o.who, .int .i64 o.inn, .int .i64 o.code, .int .i64 o.sec, .int .i64 o.fam, .int .i64 o.gen]

set_option maxRecDepth 100000 in
set_option maxHeartbeats 4000000 in
theorem specPlan_any (w : World) (q tx : Int) (o : Op) (v : Value) (its : List Item) (hv : Items w w.heap.size v its) (hp : plcB q its = true) (ho : opB o = true) (ht : inB tx 0 29 = true) (hh : hereB o.kind q = true) :
    Calls Tryz.prog 53 #[.int .i64 q, .agg #[v], .int .i64 tx, opV o] w (PlannedAg (planP its q tx o) w) := by
  obtain ⟨A, c, rfl, hc2, hc1⟩ := hv.form
  obtain ⟨hs, hf⟩ := plc_parts hp
  obtain ⟨t0, t1⟩ := inB_parts ht
  have HV := Lib.hid hv
  have HS := Lib.hid (Ps3.start w o (.slice A its.length c))
  have HO' := Lib.hid ho
  have HF := Lib.hid hf
  have HH := Lib.hid hh
  have HSh := Lib.hid (sto_short' hs)
  have hds : (numS tx).size ≤ 2 := numS_size _
  have hq := plcB_which hp
  clear hv hp ho ht hh hf
  go_enter Tryz.func53, Tryz.ntmps53
  rcases hq with rfl | rfl | rfl
  · have s0 := HS.out.sto.of 0 _ rfl
    obtain ⟨q0, q1, q2, q3, q4, q5, q6⟩ := HS.out.seven
    go_wp2_with fail
    clear s0 q0 q1 q2 q3 q4 q5 q6
    refine (specIn_any _ o _ its ((HV.out.below HS.out.bel).more HS.out.bel.size) hs HO'.out HH.out tx).mono ?_
    rintro e wq ⟨ua, ub, rfl, ho, hb⟩
    have HZQ := Lib.hid HS.out.size.2.2
    replace HS := Lib.hid (HS.out.call hb)
    obtain ⟨Aa, ca, Ab, cb, rfl, rfl⟩ := planForm ho
    have HO := Lib.hid ho
    clear hb ho
    have p0 := HS.out.pl.of 0 _ rfl
    have p1 := HS.out.pl.of 1 _ rfl
    have p2 := HS.out.pl.of 2 _ rfl
    have fr := HS.out.pl.2.1
    go_wp2
    clear p0 p1 p2 fr
    have HQ := HS.out.pl.put3 (.bool (planP its 1 tx o).ok) (.slice Aa (planP its 1 tx o).locks.length ca) (.slice Ab (planP its 1 tx o).writes.length cb)
    have q0 := HQ.of 0 _ rfl
    have q1 := HQ.of 1 _ rfl
    have q2 := HQ.of 2 _ rfl
    exact bodyPost_ret (v := .agg #[.bool (planP its 1 tx o).ok, .slice Aa (planP its 1 tx o).locks.length ca, .slice Ab (planP its 1 tx o).writes.length cb]) (by simp only [results, Tryz.results53, go_sem]; simp [go_sem, q0, q1, q2]) rfl (HS.out.put HO.out HZQ.out _ rfl)
  · have s0 := HS.out.sto.of 0 _ rfl
    obtain ⟨q0, q1, q2, q3, q4, q5, q6⟩ := HS.out.seven
    go_wp2_with fail
    clear s0 q0 q1 q2 q3 q4 q5 q6
    refine (specMay_any _ o _ its ((HV.out.below HS.out.bel).more HS.out.bel.size) hs HO'.out HF.out HH.out tx).mono ?_
    rintro e wq ⟨ua, ub, rfl, ho, hb⟩
    have HZQ := Lib.hid HS.out.size.2.2
    replace HS := Lib.hid (HS.out.call hb)
    obtain ⟨Aa, ca, Ab, cb, rfl, rfl⟩ := planForm ho
    have HO := Lib.hid ho
    clear hb ho
    have p0 := HS.out.pl.of 0 _ rfl
    have p1 := HS.out.pl.of 1 _ rfl
    have p2 := HS.out.pl.of 2 _ rfl
    have fr := HS.out.pl.2.1
    go_wp2
    clear p0 p1 p2 fr
    have HQ := HS.out.pl.put3 (.bool (planP its 2 tx o).ok) (.slice Aa (planP its 2 tx o).locks.length ca) (.slice Ab (planP its 2 tx o).writes.length cb)
    have q0 := HQ.of 0 _ rfl
    have q1 := HQ.of 1 _ rfl
    have q2 := HQ.of 2 _ rfl
    exact bodyPost_ret (v := .agg #[.bool (planP its 2 tx o).ok, .slice Aa (planP its 2 tx o).locks.length ca, .slice Ab (planP its 2 tx o).writes.length cb]) (by simp only [results, Tryz.results53, go_sem]; simp [go_sem, q0, q1, q2]) rfl (HS.out.put HO.out HZQ.out _ rfl)
  · clear HF HH
    go_wp2_with fail
    refine (l3Num_any _ _ t0 (by omega)).mono ?_
    rintro e w1 ⟨rfl, hb⟩
    replace HS := Lib.hid (HS.out.call hb)
    clear hb
    have s0 := HS.out.sto.of 0 _ rfl
    go_wp2_with fail
    rw [show (⟨#[97]⟩ : ByteArray) ++ numS tx = keyN 97 tx from rfl]
    clear s0 hds
    refine (l1Get_any _ _ its _ ((HV.out.below HS.out.bel).more HS.out.bel.size) HSh.out).mono ?_
    rintro e w2 ⟨u, rfl, -, hb⟩
    replace HS := Lib.hid (HS.out.call hb)
    clear hb
    obtain ⟨hz0, hz1, hz2⟩ := HS.out.size
    rcases hlk : lookOk its (keyN 97 tx)
    case true =>
      have HP := Lib.hid (show planP its 3 tx o = noP [keyN 97 tx] by unfold planP; rw [if_pos rfl]; unfold doneP; rw [hlk, if_pos rfl])
      have HRow : Hid (strSh.Row (w2.alloc (.cells #[.string (keyN 97 tx)] 9)) (w2.alloc (.cells #[.string (keyN 97 tx)] 9)).heap.size (.slice (some ⟨w2.heap.size, 0, none⟩) 1 1) [keyN 97 tx]) := Lib.hid (by
        have h := (strs_lit w2 [keyN 97 tx] #[.string (keyN 97 tx)] rfl (by simp [keyN_max]) (by unfold maxLen; simp)).row
        exact h)
      have HT := Lib.hid (HS.out.call (belowOne w2 (.cells #[.string (keyN 97 tx)] 9)))
      have hzq : w.heap.size + 1 + 1 < (w2.alloc (.cells #[.string (keyN 97 tx)] 9)).heap.size := HT.out.size.2.2
      have HZQ := Lib.hid hzq
      clear hzq
      go_wp2_with fail
      refine (specNo_any _ _ [keyN 97 tx] HRow.out (by simp)).mono ?_
      rintro e wq ⟨ua, ub, rfl, ho, hb⟩
      replace HT := Lib.hid (HT.out.call hb)
      obtain ⟨Aa, ca, Ab, cb, rfl, rfl⟩ := planForm ho
      have HO := Lib.hid ho
      clear hb ho HRow
      have p0 := HT.out.pl.of 0 _ rfl
      have p1 := HT.out.pl.of 1 _ rfl
      have p2 := HT.out.pl.of 2 _ rfl
      have fr := HT.out.pl.2.1
      go_wp2
      clear p0 p1 p2 fr
      have HQ := HT.out.pl.put3 (.bool (noP [keyN 97 tx]).ok) (.slice Aa (noP [keyN 97 tx]).locks.length ca) (.slice Ab (noP [keyN 97 tx]).writes.length cb)
      have q0 := HQ.of 0 _ rfl
      have q1 := HQ.of 1 _ rfl
      have q2 := HQ.of 2 _ rfl
      rw [HP.out]
      exact bodyPost_ret (v := .agg #[.bool (noP [keyN 97 tx]).ok, .slice Aa (noP [keyN 97 tx]).locks.length ca, .slice Ab (noP [keyN 97 tx]).writes.length cb]) (by simp only [results, Tryz.results53, go_sem]; simp [go_sem, q0, q1, q2]) rfl (HT.out.put HO.out HZQ.out _ rfl)
    have HP := Lib.hid (show planP its 3 tx o = ⟨true, [keyN 97 tx], [⟨keyN 97 tx, false, [o.kind]⟩]⟩ by unfold planP; rw [if_pos rfl]; unfold doneP; rw [hlk, if_neg (by decide)])
    have o0 := HS.out.op.of 0 _ rfl
    have p0 := HS.out.pl.of 0 _ rfl
    have p1 := HS.out.pl.of 1 _ rfl
    have p2 := HS.out.pl.of 2 _ rfl
    have fr := HS.out.pl.2.1
    go_wp2
    clear o0 p0 p1 p2 fr
    have h0 := strs_lit (put3 w2 (w.heap.size + 1 + 1) (.bool true) (.slice (some ⟨w2.heap.size, 0, none⟩) 1 1) (.slice (some ⟨w2.heap.size + 1 + 1, 0, none⟩) 1 1)) [keyN 97 tx] #[.string (keyN 97 tx)] rfl (by simp [keyN_max]) (by unfold maxLen; simp)
    rw [put3_size] at h0
    have h1 := ints_lit ((put3 w2 (w.heap.size + 1 + 1) (.bool true) (.slice (some ⟨w2.heap.size, 0, none⟩) 1 1) (.slice (some ⟨w2.heap.size + 1 + 1, 0, none⟩) 1 1)).alloc (.cells #[.string (keyN 97 tx)] 9)) [o.kind] #[.int .i64 (o.kind)] rfl (by unfold maxLen; simp)
    rw [alloc_size, put3_size] at h1
    have h2 := wrs_lit1 (((put3 w2 (w.heap.size + 1 + 1) (.bool true) (.slice (some ⟨w2.heap.size, 0, none⟩) 1 1) (.slice (some ⟨w2.heap.size + 1 + 1, 0, none⟩) 1 1)).alloc (.cells #[.string (keyN 97 tx)] 9)).alloc (.cells #[.int .i64 (o.kind)] 3)) _ (keyN 97 tx) false (.slice (some ⟨w2.heap.size + 1, 0, none⟩) 1 1) [o.kind] (keyN_max _ _) h1 (fun b hb => by rw [alloc_size, alloc_size, put3_size]; omega)
    rw [alloc_size, alloc_size, put3_size] at h2
    have HQ := ((((HS.out.pl.put3 (.bool true) (.slice (some ⟨w2.heap.size, 0, none⟩) 1 1) (.slice (some ⟨w2.heap.size + 1 + 1, 0, none⟩) 1 1)).after (.cells #[.string (keyN 97 tx)] 9)).after (.cells #[.int .i64 (o.kind)] 3)).after (.cells #[.string (keyN 97 tx), .bool false, .slice (some ⟨w2.heap.size + 1, 0, none⟩) 1 1] 77))
    have q0 := HQ.of 0 _ rfl
    have q1 := HQ.of 1 _ rfl
    have q2 := HQ.of 2 _ rfl
    rw [HP.out]
    refine bodyPost_ret (v := .agg #[.bool true, .slice (some ⟨w2.heap.size, 0, none⟩) 1 1, .slice (some ⟨w2.heap.size + 1 + 1, 0, none⟩) 1 1]) (by simp only [results, Tryz.results53, go_sem]; simp [go_sem, q0, q1, q2]) rfl ⟨_, _, rfl, planOwn (pl := ⟨true, [keyN 97 tx], [⟨keyN 97 tx, false, [o.kind]⟩]⟩) (w2.heap.size) ((h0.below (belowOne _ _)).below (belowOne _ _)) h2 (fun b hb => by first | omega | (rcases hb with h | h <;> first | exact h.elim | omega | (rcases h with h | h <;> first | exact h.elim | omega))) (fun b hb => by first | omega | (rcases hb with h | h <;> first | exact h.elim | omega | (rcases h with h | h <;> first | exact h.elim | omega))) (fun b h1 h2 => by first | omega | (rcases h2 with h | h <;> first | exact h.elim | omega | (rcases h with h | h <;> first | exact h.elim | omega))) (by omega), ((((belowPut3 HS.out.bel (w.heap.size + 1 + 1) (by omega) _ _ _).alloc (by rw [put3_size]; omega) _).alloc (by rw [alloc_size, put3_size]; omega) _).alloc (by rw [alloc_size, alloc_size, put3_size]; omega) _)⟩

end Go.Proofs.YtecdibpiojgppaaGreat

/- jaInts and jaIn of the laws. -/
namespace Go.Proofs.YtecdibpiojgppaaGreat
open Go.RowKit

set_option maxRecDepth 100000 in
theorem jaInts_any (w : World) (B : Nat) (v u : Value) (xs ys : List Int) (hv : Ints w B v xs) (hu : Ints w B u ys) :
    Calls Tryz.prog 60 #[v, u] w fun e w' => e = .returned (.bool (decide (xs = ys))) ∧ ∃ n, w' = w.drewN n := by
  obtain ⟨A, c, rfl, hc1, hc2, hrow⟩ := hv
  obtain ⟨A', c', rfl, hc1', hc2', hrow'⟩ := hu
  unfold maxLen at hc2 hc2'
  by_cases hl : xs.length = ys.length
  · have HL := Lib.hid hl
    have hl1 : xs.length ≤ ys.length := by omega
    have hl2 : ys.length ≤ xs.length := by omega
    have hbe : (((xs.length : Nat) : Int) != ((ys.length : Nat) : Int)) = false := by simp [hl]
    clear hl
    go_enter Tryz.func60, Tryz.ntmps60
    go_wp2
    go_loopw [5] (fun i wr => ∃ k n : Nat, k ≤ xs.length ∧ i = .int .i64 k ∧ Same xs ys k ∧ wr = w.drewN n) (fun i _ => xs.length - (intOf i).toNat)
    case atStart => exact ⟨0, 0, Nat.zero_le _, rfl, Same.start xs ys, rfl⟩
    case round =>
      obtain ⟨k, n, hk, rfl, hs, rfl⟩ := hrel
      by_cases hlt : k < xs.length
      · obtain ⟨b, off, rfl, hB, hcell⟩ := hrow (by omega)
        obtain ⟨b', off', rfl, hB', hcell'⟩ := hrow' (by omega)
        have hck := hcell k hlt
        have hck' := hcell' k (by omega)
        have hlt' : k < ys.length := by omega
        clear hcell hrow hcell' hrow'
        by_cases hn : nth xs k = nth ys k
        · have hs1 := hs.step hn
          have hb1 : (nth xs k != nth ys k) = false := by simp [hn]
          clear hn
          go_wp2
          go_quiet (fail)
          go_wp2
          go_roundw
          case rel => exact ⟨k + 1, _, by omega, by go_num, hs1, rfl⟩
          case measure => simp [intOf]; omega
        · have hne := Lib.hid (nth_ne hn)
          have hb1 : (nth xs k != nth ys k) = true := by simp [hn]
          clear hn
          go_wp2
          go_quiet (fail)
          go_wp2
          go_ret
          exact ⟨ret_bool (by simp [hne.out]), _, World.drewN_drewN _ _ _⟩
      · have hks : k = xs.length := by omega
        have HE := Lib.hid ((hks ▸ hs : Same xs ys xs.length).eq HL.out)
        clear hks hrow hrow'
        go_wp2
        go_ret
        exact ⟨ret_bool (by simp [HE.out]), _, rfl⟩
  · have hne := Lib.hid (len_ne hl)
    have hbe : (((xs.length : Nat) : Int) != ((ys.length : Nat) : Int)) = true := by simp; omega
    clear hl hrow hrow'
    go_enter Tryz.func60, Tryz.ntmps60
    go_wp2
    go_ret
    exact ⟨ret_bool (by simp [hne.out]), 0, rfl⟩

/-- A number is one of some. -/
def memB (xs : List Int) (n : Int) : Bool := xs.contains n
/-- None of the first k is it. -/
def NoneTo (xs : List Int) (n : Int) (k : Nat) : Prop := ∀ j, j < k → j < xs.length → nth xs j ≠ n
theorem NoneTo.start (xs : List Int) (n : Int) : NoneTo xs n 0 := fun j h => absurd h (by omega)
theorem NoneTo.step {xs : List Int} {n : Int} {k : Nat} (h : NoneTo xs n k) (hn : nth xs k ≠ n) : NoneTo xs n (k + 1) := by
  intro j hj hl
  rcases Nat.lt_or_ge j k with hlt | hge
  · exact h j hlt hl
  · have : j = k := by omega
    subst this; exact hn
theorem NoneTo.all {xs : List Int} {n : Int} (h : NoneTo xs n xs.length) : memB xs n = false := by
  unfold memB
  rw [List.contains_eq_mem, decide_eq_false_iff_not]
  intro hm
  obtain ⟨j, hj, e⟩ := List.getElem_of_mem hm
  have := h j hj hj
  rw [nth_get hj] at this
  exact this e
theorem memB_at {xs : List Int} {n : Int} {k : Nat} (hk : k < xs.length) (h : nth xs k = n) : memB xs n = true := by
  unfold memB
  rw [List.contains_eq_mem, decide_eq_true_iff]
  rw [nth_get hk] at h
  exact h ▸ List.getElem_mem hk
end Go.Proofs.YtecdibpiojgppaaGreat

/- What the model's PlcPlan answers. -/
namespace Go.Proofs.YtecdibpiojgppaaGreat
open Go.RowKit

set_option maxRecDepth 100000 in
theorem l3Has_any (w : World) (B : Nat) (v : Value) (xs : List Int) (n : Int) (hv : Ints w B v xs) :
    Calls Tryz.prog 52 #[v, .int .i64 n] w fun e w' => e = .returned (.bool (memB xs n)) ∧ w = w' := by
  obtain ⟨A, c, rfl, hc1, hc2, hrow⟩ := hv
  unfold maxLen at hc2
  go_enter Tryz.func52, Tryz.ntmps52
  go_wp2
  go_loop [5] (fun i => ∃ k : Nat, k ≤ xs.length ∧ i = .int .i64 k ∧ NoneTo xs n k) (fun i => xs.length - (intOf i).toNat)
  case atStart => exact ⟨0, Nat.zero_le _, rfl, NoneTo.start xs n⟩
  case round =>
    obtain ⟨k, hk, rfl, hs⟩ := hrel
    by_cases hlt : k < xs.length
    · obtain ⟨b, off, rfl, hB, hcell⟩ := hrow (by omega)
      have hck := hcell k hlt
      clear hcell hrow
      by_cases hn : nth xs k = n
      · have HM := Lib.hid (memB_at hlt hn)
        have hb1 : (nth xs k == n) = true := by simp [hn]
        clear hn
        go_wp2
        go_ret
        exact ⟨ret_bool HM.out.symm, rfl⟩
      · have HS := Lib.hid (hs.step hn)
        have hb1 : (nth xs k == n) = false := by simp [hn]
        clear hn
        go_wp2
        go_round
        case rel => exact ⟨k + 1, by omega, by go_num, HS.out⟩
        case measure => simp [intOf]; omega
    · have hks : k = xs.length := by omega
      have HM := Lib.hid (NoneTo.all (hks ▸ hs : NoneTo xs n xs.length))
      clear hks hrow
      go_wp2
      go_ret
      exact ⟨ret_bool HM.out.symm, rfl⟩

theorem memB_places {o : Op} (ho : opB o = true) {q : Int} (hq : q = 1 ∨ q = 2 ∨ q = 3) : memB (placesP o) q = hereB o.kind q := by
  have hpl : placesP o = ([1, 2, 3] : List Int).filter (hereB o.kind) := by unfold placesP upto; rw [if_pos ho]; rfl
  have h3 : hereB o.kind 3 = true := by simp [hereB]
  rw [hpl]
  rcases hq with rfl | rfl | rfl <;> cases e1 : hereB o.kind 1 <;> cases e2 : hereB o.kind 2 <;> simp [memB, List.filter, e1, e2, h3]

set_option maxRecDepth 100000 in
set_option maxHeartbeats 4000000 in
theorem specPlcPlan_any (w : World) (q : Int) (v : Value) (its : List Item) (hv : Items w w.heap.size v its) (tx : Int) (o : Op) :
    Calls Tryz.prog 15 #[.int .i64 q, .agg #[v], .int .i64 tx, opV o] w (PlannedAg (plcP its q tx o) w) := by
  obtain ⟨A, c, rfl, hc2, hc1⟩ := hv.form
  have HV := Lib.hid hv
  have HS := Lib.hid (Ps3.start w o (.slice A its.length c))
  clear hv
  go_enter Tryz.func15, Tryz.ntmps15
  have s0 := HS.out.sto.of 0 _ rfl
  go_wp2_with fail
  clear s0
  refine (specPlcOk_any _ q _ its ((HV.out.below HS.out.bel).more HS.out.bel.size)).mono ?_
  rintro e w1 ⟨rfl, hb⟩
  replace HS := Lib.hid (HS.out.call hb)
  clear hb
  cases hp : plcB q its with
  | false =>
    have HE := Lib.hid (show plcP its q tx o = ⟨false, [], []⟩ by unfold plcP; rw [hp]; simp)
    clear hp
    have p0 := HS.out.pl.of 0 _ rfl
    have p1 := HS.out.pl.of 1 _ rfl
    have p2 := HS.out.pl.of 2 _ rfl
    have fr := HS.out.pl.2.1
    go_wp2
    clear p0 p1 p2 fr
    have HQ := HS.out.pl.put3 (.bool false) (.slice none 0 0) (.slice none 0 0)
    have q0 := HQ.of 0 _ rfl
    have q1 := HQ.of 1 _ rfl
    have q2 := HQ.of 2 _ rfl
    rw [HE.out]
    exact bodyPost_ret (v := .agg #[.bool false, .slice none 0 0, .slice none 0 0]) (by simp only [results, Tryz.results15, go_sem]; simp [go_sem, q0, q1, q2]) rfl ⟨_, _, rfl, planNil _ _, belowPut3 HS.out.bel (w.heap.size + 1 + 1) (by omega) _ _ _⟩
  | true =>
    have HP := Lib.hid hp
    clear hp
    obtain ⟨q0, q1, q2, q3, q4, q5, q6⟩ := HS.out.seven
    go_wp2_with fail
    clear q0 q1 q2 q3 q4 q5 q6
    refine (specOpOk_any _ o).mono ?_
    rintro e w2 ⟨rfl, hb⟩
    replace HS := Lib.hid (HS.out.call hb)
    clear hb
    cases ho : opB o with
    | false =>
      have HE := Lib.hid (show plcP its q tx o = ⟨false, [], []⟩ by unfold plcP; rw [ho]; simp)
      clear ho
      have p0 := HS.out.pl.of 0 _ rfl
      have p1 := HS.out.pl.of 1 _ rfl
      have p2 := HS.out.pl.of 2 _ rfl
      have fr := HS.out.pl.2.1
      go_wp2
      clear p0 p1 p2 fr
      have HQ := HS.out.pl.put3 (.bool false) (.slice none 0 0) (.slice none 0 0)
      have q0 := HQ.of 0 _ rfl
      have q1 := HQ.of 1 _ rfl
      have q2 := HQ.of 2 _ rfl
      rw [HE.out]
      exact bodyPost_ret (v := .agg #[.bool false, .slice none 0 0, .slice none 0 0]) (by simp only [results, Tryz.results15, go_sem]; simp [go_sem, q0, q1, q2]) rfl ⟨_, _, rfl, planNil _ _, belowPut3 HS.out.bel (w.heap.size + 1 + 1) (by omega) _ _ _⟩
    | true =>
      have HO' := Lib.hid ho
      clear ho
      go_wp2_with fail
      refine (l1In_any _ _ _ _).mono ?_
      rintro e w3 ⟨rfl, rfl⟩
      cases ht : inB tx 0 29 with
      | false =>
        have HE := Lib.hid (show plcP its q tx o = ⟨false, [], []⟩ by unfold plcP; rw [ht]; simp)
        clear ht
        have p0 := HS.out.pl.of 0 _ rfl
        have p1 := HS.out.pl.of 1 _ rfl
        have p2 := HS.out.pl.of 2 _ rfl
        have fr := HS.out.pl.2.1
        go_wp2
        clear p0 p1 p2 fr
        have HQ := HS.out.pl.put3 (.bool false) (.slice none 0 0) (.slice none 0 0)
        have q0 := HQ.of 0 _ rfl
        have q1 := HQ.of 1 _ rfl
        have q2 := HQ.of 2 _ rfl
        rw [HE.out]
        exact bodyPost_ret (v := .agg #[.bool false, .slice none 0 0, .slice none 0 0]) (by simp only [results, Tryz.results15, go_sem]; simp [go_sem, q0, q1, q2]) rfl ⟨_, _, rfl, planNil _ _, belowPut3 HS.out.bel (w.heap.size + 1 + 1) (by omega) _ _ _⟩
      | true =>
        have HT := Lib.hid ht
        clear ht
        obtain ⟨q0, q1, q2, q3, q4, q5, q6⟩ := HS.out.seven
        go_wp2_with fail
        clear q0 q1 q2 q3 q4 q5 q6
        refine (specOpPlaces_any _ o).mono ?_
        rintro e w3' ⟨u, rfl, hu, hb⟩
        obtain ⟨Au, cu, rfl, -, -⟩ := hu.form
        replace HS := Lib.hid (HS.out.call hb)
        have HU := Lib.hid hu
        clear hb hu
        go_wp2_with fail
        refine (l3Has_any _ _ _ _ _ HU.out).mono ?_
        rintro e w4 ⟨rfl, rfl⟩
        rw [memB_places HO'.out (plcB_which HP.out)]
        cases hh : hereB o.kind q with
        | false =>
          have HE := Lib.hid (show plcP its q tx o = ⟨false, [], []⟩ by unfold plcP; rw [HP.out, HO'.out, HT.out]; exact plan_here HO'.out (plcB_which HP.out) hh)
          clear hh
          have p0 := HS.out.pl.of 0 _ rfl
          have p1 := HS.out.pl.of 1 _ rfl
          have p2 := HS.out.pl.of 2 _ rfl
          have fr := HS.out.pl.2.1
          go_wp2
          clear p0 p1 p2 fr
          have HQ := HS.out.pl.put3 (.bool false) (.slice none 0 0) (.slice none 0 0)
          have q0 := HQ.of 0 _ rfl
          have q1 := HQ.of 1 _ rfl
          have q2 := HQ.of 2 _ rfl
          rw [HE.out]
          exact bodyPost_ret (v := .agg #[.bool false, .slice none 0 0, .slice none 0 0]) (by simp only [results, Tryz.results15, go_sem]; simp [go_sem, q0, q1, q2]) rfl ⟨_, _, rfl, planNil _ _, belowPut3 HS.out.bel (w.heap.size + 1 + 1) (by omega) _ _ _⟩
        | true =>
          have HE := Lib.hid (show plcP its q tx o = planP its q tx o by unfold plcP; rw [HP.out, HO'.out, HT.out]; rfl)
          have HH := Lib.hid hh
          clear hh HU
          have s0 := HS.out.sto.of 0 _ rfl
          obtain ⟨q0, q1, q2, q3, q4, q5, q6⟩ := HS.out.seven
          go_wp2_with fail
          clear s0 q0 q1 q2 q3 q4 q5 q6
          refine (specPlan_any _ q tx o _ its ((HV.out.below HS.out.bel).more HS.out.bel.size) HP.out HO'.out HT.out HH.out).mono ?_
          rintro e wq ⟨ua, ub, rfl, ho, hb⟩
          have HZQ := Lib.hid HS.out.size.2.2
          replace HS := Lib.hid (HS.out.call hb)
          obtain ⟨Aa, ca, Ab, cb, rfl, rfl⟩ := planForm ho
          have HO := Lib.hid ho
          clear hb ho
          have p0 := HS.out.pl.of 0 _ rfl
          have p1 := HS.out.pl.of 1 _ rfl
          have p2 := HS.out.pl.of 2 _ rfl
          have fr := HS.out.pl.2.1
          go_wp2
          clear p0 p1 p2 fr
          have HQ := HS.out.pl.put3 (.bool (planP its q tx o).ok) (.slice Aa (planP its q tx o).locks.length ca) (.slice Ab (planP its q tx o).writes.length cb)
          have q0 := HQ.of 0 _ rfl
          have q1 := HQ.of 1 _ rfl
          have q2 := HQ.of 2 _ rfl
          rw [HE.out]
          exact bodyPost_ret (v := .agg #[.bool (planP its q tx o).ok, .slice Aa (planP its q tx o).locks.length ca, .slice Ab (planP its q tx o).writes.length cb]) (by simp only [results, Tryz.results15, go_sem]; simp [go_sem, q0, q1, q2]) rfl (HS.out.put HO.out HZQ.out _ rfl)

end Go.Proofs.YtecdibpiojgppaaGreat
