/- Texts that follow each other, merged: DiskOf, JaInts, OpenP. -/
import Derived.Test.YtkamlibfcakblaaXLastKind
import Derived.Test.YtkamlibfcakblaaXKey
import Derived.Test.YtkamlibfcakblaaXPlain
import Derived.Deep.QuietTactic
import Derived.BigQuiet

/- What DiskOf answers, of the program and of the model: the same. -/
namespace Go.Proofs.Ytkamlibfcakblaa
open Go.RowKit

/-- What DiskOf answers. -/
def ofD (x : Disk) (tx : Int) : Int := if diskB x = true then lastK x.notes tx else 0
theorem ofD_no {x : Disk} {tx : Int} (h : diskB x = false) : ofD x tx = 0 := by unfold ofD; rw [h]; rfl
theorem ofD_yes {x : Disk} {tx : Int} (h : diskB x = true) : ofD x tx = lastK x.notes tx := by unfold ofD; rw [h]; rfl
theorem lastK_take {ns : List Note} {tx : Int} {k : Nat} {y : Note} (h : ns[k]? = some y) : lastK (ns.take (k + 1)) tx = stepK tx (lastK (ns.take k) tx) y := by
  unfold lastK; rw [take_snoc h, List.foldl_append]; rfl

theorem l2Of_any (w : World) (B : Nat) (v : Value) (ns : List Note) (tx : Int) (hv : noteSh.Row w B v ns) :
    Calls Try.prog 63 #[v, .int .i64 tx] w fun e w' => e = .returned (.int .i64 (lastK ns tx)) ∧ w = w' := by
  obtain ⟨A, c, rfl, hc2, hc1⟩ := hv.form
  unfold maxLen at hc2
  go_enter Try.func63, Try.ntmps63
  go_wp2
  go_loop [5, 6] (fun h i => ∃ k : Nat, k ≤ ns.length ∧ i = .int .i64 k ∧ h = .int .i64 (lastK (ns.take k) tx)) (fun _ i => ns.length - (intOf i).toNat)
  case atStart => exact ⟨0, Nat.zero_le _, rfl, rfl⟩
  case round =>
    obtain ⟨k, hk, rfl, rfl⟩ := hrel
    by_cases hlt : k < ns.length
    · obtain ⟨b, off, c', y, A1, c1, A2, c2, e1, hx, hB, d0, d1, d2, d3, -⟩ := notes_at2 hv hlt
      injection e1 with e1a e1b e1c
      subst e1a
      have HT := Lib.hid (lastK_take (tx := tx) hx)
      clear e1b e1c hv hx
      by_cases h1 : y.tx = tx
      · have e1 : (y.tx == tx) = true := by simp [h1]
        by_cases h2 : y.kind = 4
        · have e2 : (y.kind != 4) = false := by simp [h2]
          have HH : Hid (stepK tx (lastK (ns.take k) tx) y = lastK (ns.take k) tx) := Lib.hid (by unfold stepK hitK; simp [h2])
          clear h1 h2
          go_wp2
          go_round
          case rel => exact ⟨k + 1, by omega, by go_num, by rw [HT.out, HH.out]⟩
          case measure => simp [intOf]; omega
        · have e2 : (y.kind != 4) = true := by simp [h2]
          have HH : Hid (stepK tx (lastK (ns.take k) tx) y = y.kind) := Lib.hid (by unfold stepK hitK; simp [h1, h2])
          clear h1 h2
          go_wp2
          go_round
          case rel => exact ⟨k + 1, by omega, by go_num, by rw [HT.out, HH.out]⟩
          case measure => simp [intOf]; omega
      · have e1 : (y.tx == tx) = false := by simp [h1]
        have HH : Hid (stepK tx (lastK (ns.take k) tx) y = lastK (ns.take k) tx) := Lib.hid (by unfold stepK hitK; simp [h1])
        clear h1
        go_wp2
        go_round
        case rel => exact ⟨k + 1, by omega, by go_num, by rw [HT.out, HH.out]⟩
        case measure => simp [intOf]; omega
    · have hks : k = ns.length := by omega
      have HE : Hid (lastK (ns.take k) tx = lastK ns tx) := Lib.hid (by rw [hks, List.take_length])
      clear hks hv
      go_wp2
      go_ret
      exact ⟨ret_int HE.out, rfl⟩

theorem specDiskOf_any (w : World) (cs : List Value) (x : Disk) (tx : Int) (h : diskSh.rel w w.heap.size cs x) :
    Calls Try.prog 14 #[.agg cs.toArray, .int .i64 tx] w fun e w' => e = .returned (.int .i64 (ofD x tx)) ∧ Below w.heap.size w w' := by
  have HH := Lib.hid fun W (hb : Below w.heap.size w W) => diskSh.rmore (diskSh.rbelow h hb) hb.size
  obtain ⟨u, rfl, hu⟩ := disk_rel.1 h
  obtain ⟨Au, cu, rfl, hcu, hnu⟩ := hu.form
  have HU := Lib.hid fun W (hb : Below w.heap.size w W) => hu.below hb
  have HX := Lib.hid (Held.new w #[.slice Au x.notes.length cu, .int .i64 x.safe] 25)
  have HW := Lib.hid (belowOne w (.cells #[.slice Au x.notes.length cu, .int .i64 x.safe] 25))
  clear h hu
  go_enter Try.func14, Try.ntmps14
  go_wp2_with fail
  refine (specDiskOk_any _ _ x (HH.out _ HW.out)).mono ?_
  rintro e w1 ⟨rfl, hb⟩
  replace HX := Lib.hid (HX.out.below hb HX.out.1)
  replace HW := Lib.hid (belowNext HW.out hb)
  clear hb
  have c0 := HX.out.of 0 _ rfl
  rcases hd : diskB x
  · go_wp2
    go_ret
    exact ⟨ret_int (ofD_no hd).symm, HW.out⟩
  · go_wp2_with fail
    refine (l2Of_any _ _ _ _ _ (HU.out _ HW.out)).mono ?_
    rintro e w2 ⟨rfl, rfl⟩
    go_wp2
    go_ret
    exact ⟨ret_int (ofD_yes hd).symm, HW.out⟩

theorem implDiskOf_any (w : World) (cs : List Value) (x : Disk) (tx : Int) (h : diskSh.rel w w.heap.size cs x) :
    Calls Try.prog 13 #[.agg cs.toArray, .int .i64 tx] w fun e w' => e = .returned (.int .i64 (ofD x tx)) ∧ Below w.heap.size w w' := by
  have HH := Lib.hid fun W (hb : Below w.heap.size w W) => diskSh.rmore (diskSh.rbelow h hb) hb.size
  obtain ⟨u, rfl, hu⟩ := disk_rel.1 h
  obtain ⟨Au, cu, rfl, hcu, hnu⟩ := hu.form
  have HU := Lib.hid fun W (hb : Below w.heap.size w W) => (hu.below hb).more hb.size
  have HX := Lib.hid (Held.new w #[.slice Au x.notes.length cu, .int .i64 x.safe] 25)
  have HW := Lib.hid (belowOne w (.cells #[.slice Au x.notes.length cu, .int .i64 x.safe] 25))
  clear h hu
  go_enter Try.func13, Try.ntmps13
  go_wp2_with fail
  refine (implDiskOk_any _ _ x (HH.out _ HW.out)).mono ?_
  rintro e w1 ⟨rfl, hb⟩
  replace HX := Lib.hid (HX.out.below hb HX.out.1)
  replace HW := Lib.hid (belowNext HW.out hb)
  clear hb
  have c0 := HX.out.of 0 _ rfl
  rcases hd : diskB x
  · go_wp2
    go_ret
    exact ⟨ret_int (ofD_no hd).symm, HW.out⟩
  · go_wp2_with fail
    refine (listOf_any _ _ x.notes (HU.out _ HW.out)).mono ?_
    rintro e w2 ⟨L, rfl, hR, hb⟩
    have HA := Lib.hid (lastKind_any w2 _ L x.notes tx hR)
    replace HW := Lib.hid (belowNext HW.out hb)
    clear hb hR c0
    unfold ptr at HA ⊢
    go_wp2_with fail
    refine HA.out.mono ?_
    rintro e w3 ⟨rfl, hb⟩
    replace HW := Lib.hid (belowNext HW.out hb)
    clear hb
    go_wp2
    go_ret
    exact ⟨ret_int (ofD_yes hd).symm, HW.out⟩

end Go.Proofs.Ytkamlibfcakblaa

/- jaInts and jaIn of the laws. -/
namespace Go.Proofs.Ytkamlibfcakblaa
open Go.RowKit

set_option maxRecDepth 100000 in
theorem jaInts_any (w : World) (B : Nat) (v u : Value) (xs ys : List Int) (hv : Ints w B v xs) (hu : Ints w B u ys) :
    Calls Try.prog 22 #[v, u] w fun e w' => e = .returned (.bool (decide (xs = ys))) ∧ ∃ n, w' = w.drewN n := by
  obtain ⟨A, c, rfl, hc1, hc2, hrow⟩ := hv
  obtain ⟨A', c', rfl, hc1', hc2', hrow'⟩ := hu
  unfold maxLen at hc2 hc2'
  by_cases hl : xs.length = ys.length
  · have HL := Lib.hid hl
    have hl1 : xs.length ≤ ys.length := by omega
    have hl2 : ys.length ≤ xs.length := by omega
    have hbe : (((xs.length : Nat) : Int) != ((ys.length : Nat) : Int)) = false := by simp [hl]
    clear hl
    go_enter Try.func22, Try.ntmps22
    go_wp2
    go_loopw [5] (fun i wr => ∃ k n : Nat, k ≤ xs.length ∧ i = .int .i64 k ∧ Same xs ys k ∧ wr = w.drewN n) (fun i _ => xs.length - (intOf i).toNat)
    case atStart => exact ⟨0, 0, Nat.zero_le _, rfl, Same.start xs ys, rfl⟩
    case round =>
      obtain ⟨k, n, hk, rfl, hs, rfl⟩ := hrel
      by_cases hlt : k < xs.length
      · obtain ⟨b, off, rfl, hB, hcell⟩ := hrow (by omega)
        obtain ⟨b', off', rfl, hB', hcell'⟩ := hrow' (by omega)
        have hck := hcell k hlt
        have hck' := hcell' k (by omega)
        have hlt' : k < ys.length := by omega
        clear hcell hrow hcell' hrow'
        by_cases hn : nth xs k = nth ys k
        · have hs1 := hs.step hn
          have hb1 : (nth xs k != nth ys k) = false := by simp [hn]
          clear hn
          go_wp2
          go_quiet (fail)
          go_wp2
          go_roundw
          case rel => exact ⟨k + 1, _, by omega, by go_num, hs1, rfl⟩
          case measure => simp [intOf]; omega
        · have hne := Lib.hid (nth_ne hn)
          have hb1 : (nth xs k != nth ys k) = true := by simp [hn]
          clear hn
          go_wp2
          go_quiet (fail)
          go_wp2
          go_ret
          exact ⟨ret_bool (by simp [hne.out]), _, World.drewN_drewN _ _ _⟩
      · have hks : k = xs.length := by omega
        have HE := Lib.hid ((hks ▸ hs : Same xs ys xs.length).eq HL.out)
        clear hks hrow hrow'
        go_wp2
        go_ret
        exact ⟨ret_bool (by simp [HE.out]), _, rfl⟩
  · have hne := Lib.hid (len_ne hl)
    have hbe : (((xs.length : Nat) : Int) != ((ys.length : Nat) : Int)) = true := by simp; omega
    clear hl hrow hrow'
    go_enter Try.func22, Try.ntmps22
    go_wp2
    go_ret
    exact ⟨ret_bool (by simp [hne.out]), 0, rfl⟩

/-- A number is one of some. -/
def memB (xs : List Int) (n : Int) : Bool := xs.contains n
/-- None of the first k is it. -/
def NoneTo (xs : List Int) (n : Int) (k : Nat) : Prop := ∀ j, j < k → j < xs.length → nth xs j ≠ n
theorem NoneTo.start (xs : List Int) (n : Int) : NoneTo xs n 0 := fun j h => absurd h (by omega)
theorem NoneTo.step {xs : List Int} {n : Int} {k : Nat} (h : NoneTo xs n k) (hn : nth xs k ≠ n) : NoneTo xs n (k + 1) := by
  intro j hj hl
  rcases Nat.lt_or_ge j k with hlt | hge
  · exact h j hlt hl
  · have : j = k := by omega
    subst this; exact hn
theorem NoneTo.all {xs : List Int} {n : Int} (h : NoneTo xs n xs.length) : memB xs n = false := by
  unfold memB
  rw [List.contains_eq_mem, decide_eq_false_iff_not]
  intro hm
  obtain ⟨j, hj, e⟩ := List.getElem_of_mem hm
  have := h j hj hj
  rw [nth_get hj] at this
  exact this e
theorem memB_at {xs : List Int} {n : Int} {k : Nat} (hk : k < xs.length) (h : nth xs k = n) : memB xs n = true := by
  unfold memB
  rw [List.contains_eq_mem, decide_eq_true_iff]
  rw [nth_get hk] at h
  exact h ▸ List.getElem_mem hk
set_option maxRecDepth 100000 in
theorem jaIn_any (w : World) (B : Nat) (v : Value) (xs : List Int) (n : Int) (hv : Ints w B v xs) :
    Calls Try.prog 26 #[v, .int .i64 n] w fun e w' => e = .returned (.bool (memB xs n)) ∧ w = w' := by
  obtain ⟨A, c, rfl, hc1, hc2, hrow⟩ := hv
  unfold maxLen at hc2
  go_enter Try.func26, Try.ntmps26
  go_wp2
  go_loop [5] (fun i => ∃ k : Nat, k ≤ xs.length ∧ i = .int .i64 k ∧ NoneTo xs n k) (fun i => xs.length - (intOf i).toNat)
  case atStart => exact ⟨0, Nat.zero_le _, rfl, NoneTo.start xs n⟩
  case round =>
    obtain ⟨k, hk, rfl, hs⟩ := hrel
    by_cases hlt : k < xs.length
    · obtain ⟨b, off, rfl, hB, hcell⟩ := hrow (by omega)
      have hck := hcell k hlt
      clear hcell hrow
      by_cases hn : nth xs k = n
      · have HM := Lib.hid (memB_at hlt hn)
        have hb1 : (nth xs k == n) = true := by simp [hn]
        clear hn
        go_wp2
        go_ret
        exact ⟨ret_bool HM.out.symm, rfl⟩
      · have HS := Lib.hid (hs.step hn)
        have hb1 : (nth xs k == n) = false := by simp [hn]
        clear hn
        go_wp2
        go_round
        case rel => exact ⟨k + 1, by omega, by go_num, HS.out⟩
        case measure => simp [intOf]; omega
    · have hks : k = xs.length := by omega
      have HM := Lib.hid (NoneTo.all (hks ▸ hs : NoneTo xs n xs.length))
      clear hks hrow
      go_wp2
      go_ret
      exact ⟨ret_bool HM.out.symm, rfl⟩

end Go.Proofs.Ytkamlibfcakblaa

/- Which notes are in doubt, and what is open and locked by them. -/
namespace Go.Proofs.Ytkamlibfcakblaa

/-- A note of one who is ready, of whom nothing else is noted later. -/
def openB (ns : List Note) (n : Note) : Bool := decide (n.kind = 1) && decide (lastK ns n.tx = 1)
theorem openB_kind {ns : List Note} {n : Note} (h : n.kind ≠ 1) : openB ns n = false := by simp [openB, h]
theorem openB_last {ns : List Note} {n : Note} (h : lastK ns n.tx ≠ 1) : openB ns n = false := by simp [openB, h]
theorem openB_yes {ns : List Note} {n : Note} (h : n.kind = 1) (h2 : lastK ns n.tx = 1) : openB ns n = true := by simp [openB, h, h2]
/-- What follows a note of tx says what all say. -/
theorem last_drop {ns : List Note} {k : Nat} {y : Note} (h : ns[k]? = some y) (hk : y.kind = 1) : lastK (ns.drop k) y.tx = lastK ns y.tx := by
  obtain ⟨hlt, rfl⟩ := List.getElem?_eq_some_iff.1 h
  have e : ns.drop k = ns[k] :: ns.drop (k + 1) := List.drop_eq_getElem_cons hlt
  have h1 : ∀ r, stepK ns[k].tx r ns[k] = ns[k].kind := fun r => by
    have : hitK ns[k].tx ns[k] = true := by unfold hitK; simp [hk]
    simp [stepK, this]
  have h2 : lastK ns ns[k].tx = (ns.drop (k + 1)).foldl (stepK ns[k].tx) ns[k].kind := by
    unfold lastK
    rw [← h1 ((ns.take k).foldl (stepK ns[k].tx) 0), ← List.foldl_cons, ← e, ← List.foldl_append, List.take_append_drop]
  rw [h2, e]
  unfold lastK
  rw [List.foldl_cons, h1]

/-- One more number, if it isn't there. -/
def addI (xs : List Int) (n : Int) : List Int := if memB xs n = true then xs else xs ++ [n]
theorem addI_in {xs : List Int} {n : Int} (h : memB xs n = true) : addI xs n = xs := if_pos h
theorem addI_new {xs : List Int} {n : Int} (h : memB xs n = false) : addI xs n = xs ++ [n] := if_neg (by simp [h])
theorem addI_len (xs : List Int) (n : Int) : (addI xs n).length ≤ xs.length + 1 := by unfold addI; split <;> simp
/-- One more text, if it isn't there. -/
def addS (xs : List ByteArray) (k : ByteArray) : List ByteArray := if hasB xs k = true then xs else xs ++ [k]
theorem addS_in {xs : List ByteArray} {k : ByteArray} (h : hasB xs k = true) : addS xs k = xs := if_pos h
theorem addS_new {xs : List ByteArray} {k : ByteArray} (h : hasB xs k = false) : addS xs k = xs ++ [k] := if_neg (by simp [h])
theorem addS_len (xs : List ByteArray) (k : ByteArray) : (addS xs k).length ≤ xs.length + 1 := by unfold addS; split <;> simp
def addAll (xs ls : List ByteArray) : List ByteArray := ls.foldl addS xs
theorem addAll_len : ∀ (ls xs : List ByteArray), (addAll xs ls).length ≤ xs.length + ls.length
  | [], _ => by simp [addAll]
  | l :: ls, xs => by
    have h1 := addAll_len ls (addS xs l)
    have h2 := addS_len xs l
    have : addAll xs (l :: ls) = addAll (addS xs l) ls := rfl
    rw [this, List.length_cons]; omega
theorem addAll_step {xs ls : List ByteArray} {j : Nat} {y : ByteArray} (h : ls[j]? = some y) : addAll xs (ls.take (j + 1)) = addS (addAll xs (ls.take j)) y := by
  unfold addAll; rw [take_snoc h, List.foldl_append]; rfl

/-- What some notes in doubt leave open. -/
def opensTx (ys : List Note) : List Int := ys.foldl (fun o n => addI o n.tx) []
def opensKeys (ys : List Note) : List ByteArray := ys.foldl (fun o n => addAll o n.locks) []
theorem opensTx_snoc (ys : List Note) (y : Note) : opensTx (ys ++ [y]) = addI (opensTx ys) y.tx := by unfold opensTx; rw [List.foldl_append]; rfl
theorem opensKeys_snoc (ys : List Note) (y : Note) : opensKeys (ys ++ [y]) = addAll (opensKeys ys) y.locks := by unfold opensKeys; rw [List.foldl_append]; rfl
theorem foldI_len : ∀ (ys : List Note) (o : List Int), (ys.foldl (fun o n => addI o n.tx) o).length ≤ o.length + ys.length
  | [], _ => by simp
  | y :: ys, o => by
    have h1 := foldI_len ys (addI o y.tx)
    have h2 := addI_len o y.tx
    rw [List.foldl_cons, List.length_cons]; omega
theorem opensTx_len (ys : List Note) : (opensTx ys).length ≤ ys.length := by have := foldI_len ys []; simpa [opensTx] using this
theorem foldS_len {m : Nat} : ∀ (ys : List Note) (o : List ByteArray), (∀ y ∈ ys, y.locks.length ≤ m) → (ys.foldl (fun o n => addAll o n.locks) o).length ≤ o.length + m * ys.length
  | [], _, _ => by simp
  | y :: ys, o, h => by
    have h1 := foldS_len ys (addAll o y.locks) (fun z hz => h z (by simp [hz]))
    have h2 := addAll_len y.locks o
    have h3 := h y (by simp)
    rw [List.foldl_cons, List.length_cons, Nat.mul_add]; omega
theorem opensKeys_len {m : Nat} {ys : List Note} (h : ∀ y ∈ ys, y.locks.length ≤ m) : (opensKeys ys).length ≤ m * ys.length := by have := foldS_len ys [] h; simpa [opensKeys] using this

/-- The notes in doubt among the first k. -/
def inD (ns : List Note) (k : Nat) : List Note := (ns.take k).filter (openB ns)
theorem inD_yes {ns : List Note} {k : Nat} {y : Note} (h : ns[k]? = some y) (hy : openB ns y = true) : inD ns (k + 1) = inD ns k ++ [y] := by
  unfold inD; rw [take_snoc h, List.filter_append]; simp [hy]
theorem inD_no {ns : List Note} {k : Nat} {y : Note} (h : ns[k]? = some y) (hy : openB ns y = false) : inD ns (k + 1) = inD ns k := by
  unfold inD; rw [take_snoc h, List.filter_append]; simp [hy]
theorem inD_all (ns : List Note) : inD ns ns.length = ns.filter (openB ns) := by unfold inD; rw [List.take_length]
theorem inD_len (ns : List Note) (k : Nat) : (inD ns k).length ≤ k := Nat.le_trans (List.length_filter_le _ _) (by simp; omega)
theorem inD_mem {ns : List Note} {k : Nat} {y : Note} (h : y ∈ inD ns k) : y ∈ ns := List.mem_of_mem_take (List.mem_filter.1 h).1

def openD (x : Disk) : List Int := if diskB x = true then opensTx (inD x.notes x.notes.length) else []
def locksD (x : Disk) : List ByteArray := if diskB x = true then opensKeys (inD x.notes x.notes.length) else []
theorem openD_no {x : Disk} (h : diskB x = false) : openD x = [] := by unfold openD; rw [h]; rfl
theorem openD_yes {x : Disk} (h : diskB x = true) : openD x = opensTx (inD x.notes x.notes.length) := by unfold openD; rw [h]; rfl
theorem locksD_no {x : Disk} (h : diskB x = false) : locksD x = [] := by unfold locksD; rw [h]; rfl
theorem locksD_yes {x : Disk} (h : diskB x = true) : locksD x = opensKeys (inD x.notes x.notes.length) := by unfold locksD; rw [h]; rfl
theorem noteB_locks {n : Note} (h : noteB n = true) : n.locks.length ≤ 12 := by
  by_cases hk : n.kind = 1
  · unfold noteB at h
    rw [if_pos hk] at h
    simp only [Bool.and_eq_true, locksB, decide_eq_true_eq] at h
    exact h.2.1.1
  · unfold noteB at h
    rw [if_neg hk] at h
    simp only [Bool.and_eq_true, decide_eq_true_eq] at h
    omega
theorem diskB_note {x : Disk} (h : diskB x = true) {n : Note} (hn : n ∈ x.notes) : noteB n = true := List.all_eq_true.1 (diskB_parts h).2.2.2 n hn

end Go.Proofs.Ytkamlibfcakblaa
