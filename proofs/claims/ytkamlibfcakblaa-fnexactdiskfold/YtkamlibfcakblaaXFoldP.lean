/- Texts that follow each other, merged: FoldP, Ready, StoDoI. -/
import Derived.Test.YtkamlibfcakblaaXGoes
import Derived.Test.YtkamlibfcakblaaXWrts
import Derived.Test.YtkamlibfcakblaaXOwnWr
import Derived.Test.YtkamlibfcakblaaXStoMap
import Derived.Test.YtkamlibfcakblaaXFrameRow
import Derived.Test.YtkamlibfcakblaaXDiskOk
import Derived.Test.YtkamlibfcakblaaXCopyI
import Derived.Test.YtkamlibfcakblaaXStoDoS

/- What the committed writes of a place's notes come to: plain facts. -/
namespace Go.Proofs.Ytkamlibfcakblaa

/-- A note that says that a place is ready for tx. -/
def rdyB (tx : Int) (n : Note) : Bool := decide (n.kind = 1) && decide (n.tx = tx)
theorem rdyB_no {tx : Int} {n : Note} (h : n.kind ≠ 1 ∨ n.tx ≠ tx) : rdyB tx n = false := by unfold rdyB; rcases h with h | h <;> simp [h]
theorem rdyB_yes {tx : Int} {n : Note} (h : n.kind = 1) (h2 : n.tx = tx) : rdyB tx n = true := by unfold rdyB; simp [h, h2]
/-- The last one of those. -/
def readyN (ns : List Note) (tx : Int) : Option Note := ns.reverse.find? (rdyB tx)
theorem readyN_nil (tx : Int) : readyN [] tx = none := rfl
theorem readyN_snoc (ns : List Note) (y : Note) (tx : Int) : readyN (ns ++ [y]) tx = if rdyB tx y = true then some y else readyN ns tx := by
  unfold readyN
  rw [List.reverse_append, List.reverse_singleton, List.singleton_append, List.find?_cons]
  split <;> simp_all
theorem readyN_some {ns : List Note} {tx : Int} {n : Note} (h : readyN ns tx = some n) : n ∈ ns ∧ n.kind = 1 ∧ n.tx = tx := by
  have h1 := List.find?_some h
  have h2 := List.mem_of_find?_eq_some h
  unfold rdyB at h1
  simp only [Bool.and_eq_true, decide_eq_true_eq] at h1
  exact ⟨List.mem_reverse.1 h2, h1.1, h1.2⟩
/-- Sought from place k on down: not among those at k and behind. -/
theorem readyN_stop {ns : List Note} {tx : Int} {m k : Nat} {y : Note} (hkm : k < m) (hm : m ≤ ns.length) (hy : ns[k]? = some y) (hr : rdyB tx y = true) (hs : ∀ j z, k < j → j < m → ns[j]? = some z → rdyB tx z = false) : readyN (ns.take m) tx = some y := by
  induction m with
  | zero => omega
  | succ m ih =>
    have hlt : m < ns.length := by omega
    rw [take_snoc (List.getElem?_eq_getElem hlt), readyN_snoc]
    rcases Nat.lt_or_ge k m with h | h
    · rw [if_neg (by rw [hs m _ h (by omega) (List.getElem?_eq_getElem hlt)]; simp)]
      exact ih h (by omega) (fun j z h1 h2 h3 => hs j z h1 (by omega) h3)
    · have e : k = m := by omega
      subst e
      rw [List.getElem?_eq_getElem hlt] at hy
      cases hy
      rw [if_pos hr]
theorem readyN_none {ns : List Note} {tx : Int} {m : Nat} (hm : m ≤ ns.length) (hs : ∀ j z, j < m → ns[j]? = some z → rdyB tx z = false) : readyN (ns.take m) tx = none := by
  induction m with
  | zero => rfl
  | succ m ih =>
    have hlt : m < ns.length := by omega
    rw [take_snoc (List.getElem?_eq_getElem hlt), readyN_snoc, if_neg (by rw [hs m _ (by omega) (List.getElem?_eq_getElem hlt)]; simp)]
    exact ih (by omega) (fun j z h1 h3 => hs j z (by omega) h3)
/-- What it commits. -/
def comW (ns : List Note) (tx : Int) : List Wr := match readyN ns tx with | some n => n.writes | none => []
theorem comW_some {ns : List Note} {tx : Int} {n : Note} (h : readyN ns tx = some n) : comW ns tx = n.writes := by unfold comW; rw [h]
theorem comW_none {ns : List Note} {tx : Int} (h : readyN ns tx = none) : comW ns tx = [] := by unfold comW; rw [h]

def stepF (st : List Note × List Item) (y : Note) : List Note × List Item := (st.1 ++ [y], if y.kind = 2 then stoDo st.2 (comW st.1 y.tx) else st.2)
theorem foldF_fst : ∀ (ns : List Note) (st : List Note × List Item), (ns.foldl stepF st).1 = st.1 ++ ns
  | [], st => by simp
  | y :: ys, st => by rw [List.foldl_cons, foldF_fst ys]; simp [stepF]
def foldN (ns : List Note) : List Item := (ns.foldl stepF ([], [])).2
theorem foldN_nil : foldN [] = [] := rfl
theorem foldN_snoc (ns : List Note) (y : Note) : foldN (ns ++ [y]) = if y.kind = 2 then stoDo (foldN ns) (comW ns y.tx) else foldN ns := by
  unfold foldN
  rw [List.foldl_append, List.foldl_cons, List.foldl_nil]
  show (if y.kind = 2 then stoDo _ (comW (ns.foldl stepF ([], [])).1 y.tx) else _) = _
  rw [foldF_fst]; rfl
theorem foldN_take {ns : List Note} {k : Nat} {y : Note} (h : ns[k]? = some y) : foldN (ns.take (k + 1)) = if y.kind = 2 then stoDo (foldN (ns.take k)) (comW (ns.take k) y.tx) else foldN (ns.take k) := by
  rw [take_snoc h, foldN_snoc]
def foldD (x : Disk) : List Item := if diskB x = true then foldN x.notes else []
theorem foldD_no {x : Disk} (h : diskB x = false) : foldD x = [] := by unfold foldD; rw [h]; rfl
theorem foldD_yes {x : Disk} (h : diskB x = true) : foldD x = foldN x.notes := by unfold foldD; rw [h]; rfl

theorem stoB_empty : stoB [] = true := by decide
theorem stoDo_none {s : List Item} (h : stoB s = true) : stoDo s [] = s := by unfold stoDo doAll; rw [if_pos h]; rfl
theorem foldN_fine : ∀ (ns : List Note) (st : List Note × List Item), (st.2.length ≤ 40 ∧ Fine st.2) → ((ns.foldl stepF st).2.length ≤ 40 ∧ Fine (ns.foldl stepF st).2)
  | [], _, h => h
  | y :: ys, st, h => foldN_fine ys (stepF st y) (by
    show (if y.kind = 2 then stoDo st.2 (comW st.1 y.tx) else st.2).length ≤ 40 ∧ Fine (if y.kind = 2 then stoDo st.2 (comW st.1 y.tx) else st.2)
    split
    · exact stoDo_fine _ _
    · exact h)
theorem foldN_len (ns : List Note) : (foldN ns).length ≤ 40 := (foldN_fine ns ([], []) ⟨by simp, fun _ h => by cases h⟩).1
theorem foldN_small (ns : List Note) : Fine (foldN ns) := (foldN_fine ns ([], []) ⟨by simp, fun _ h => by cases h⟩).2

end Go.Proofs.Ytkamlibfcakblaa

/- What l2Ready answers, of the model. -/
namespace Go.Proofs.Ytkamlibfcakblaa
open Go.RowKit

/-- The note that a place is ready with, if there is one. -/
def RdyIs (ns : List Note) (tx : Int) (n : Note) (q : Bool) : Prop := (q = true ∧ readyN ns tx = some n) ∨ (q = false ∧ readyN ns tx = none)
theorem bareRel (w : World) (B : Nat) (k t : Int) : noteSh.rel w B [.int .i64 k, .int .i64 t, .slice none 0 0, .slice none 0 0] ⟨k, t, [], []⟩ := note_rel.2 ⟨_, _, rfl, Sh.Row.nil _ _, Sh.Row.nil _ _⟩
theorem ready_here {ns : List Note} {tx : Int} {j : Nat} {y : Note} (h : readyN ns tx = readyN (ns.take (j + 1)) tx) (hy : ns[j]? = some y) (hr : rdyB tx y = true) : readyN ns tx = some y := by
  rw [h, take_snoc hy, readyN_snoc, if_pos hr]
theorem ready_down {ns : List Note} {tx : Int} {j : Nat} {y : Note} (h : readyN ns tx = readyN (ns.take (j + 1)) tx) (hy : ns[j]? = some y) (hr : rdyB tx y = false) : readyN ns tx = readyN (ns.take j) tx := by
  rw [h, take_snoc hy, readyN_snoc, if_neg (by rw [hr]; simp)]

/-- What l2Ready answers. -/
def ReadyMade (ns : List Note) (tx : Int) (w : World) (B : Nat) (e : Ending) (w' : World) : Prop :=
  ∃ n q A1 c1 A2 c2, e = .returned (.tuple #[.agg #[.int .i64 n.kind, .int .i64 n.tx, .slice A1 n.locks.length c1, .slice A2 n.writes.length c2], .bool q])
    ∧ noteSh.rel w' B [.int .i64 n.kind, .int .i64 n.tx, .slice A1 n.locks.length c1, .slice A2 n.writes.length c2] n ∧ RdyIs ns tx n q ∧ Below w.heap.size w w'
set_option maxRecDepth 100000 in
set_option maxHeartbeats 2000000 in
theorem l2Ready_any (w : World) (B : Nat) (v : Value) (ns : List Note) (tx : Int) (hv : noteSh.Row w B v ns) (hl : ns.length ≤ 1000000) (hB : B ≤ w.heap.size) :
    Calls Try.prog 83 #[v, .int .i64 tx] w (ReadyMade ns tx w B) := by
  obtain ⟨A, c, rfl, hc2, hc1⟩ := hv.form
  unfold maxLen at hc2
  have HV := Lib.hid (hv.alloc hB (.cells #[.int .i64 0, .int .i64 0, .slice none 0 0, .slice none 0 0] 36))
  have HX := Lib.hid (Held.new w #[.int .i64 0, .int .i64 0, .slice none 0 0, .slice none 0 0] 36)
  have HB := Lib.hid (belowOne w (.cells #[.int .i64 0, .int .i64 0, .slice none 0 0, .slice none 0 0] 36))
  clear hv
  go_enter Try.func83, Try.ntmps83
  go_wp2
  go_loop [6] (fun i => (i = .int .i64 (-1) ∧ readyN ns tx = none) ∨ ∃ j : Nat, j < ns.length ∧ i = .int .i64 j ∧ readyN ns tx = readyN (ns.take (j + 1)) tx) (fun i => (intOf i + 1).toNat)
  case atStart =>
    rcases Nat.eq_zero_or_pos ns.length with h | h
    · refine .inl ⟨by rw [h]; rfl, ?_⟩
      rw [List.length_eq_zero_iff.1 h]; rfl
    · refine .inr ⟨ns.length - 1, by omega, by congr 1; omega, ?_⟩
      rw [show ns.length - 1 + 1 = ns.length by omega, List.take_length]
  case round =>
    have k0 := HX.out.of 0 _ rfl
    have k1 := HX.out.of 1 _ rfl
    have k2 := HX.out.of 2 _ rfl
    have k3 := HX.out.of 3 _ rfl
    have kf := HX.out.2.1
    rcases hrel with ⟨rfl, hn⟩ | ⟨j, hj, rfl, hn⟩
    · have HN := Lib.hid hn
      clear hn
      go_wp2
      refine bodyPost_ret (v := .tuple #[.agg #[.int .i64 0, .int .i64 0, .slice none 0 0, .slice none 0 0], .bool false]) ?_ rfl ⟨⟨0, 0, [], []⟩, false, none, 0, none, 0, rfl, bareRel _ _ _ _, .inr ⟨rfl, HN.out⟩, HB.out⟩
      simp [results, Try.results83, go_sem, k0, k1, k2, k3]
    · obtain ⟨b, off, d, y, A1, c1, A2, c2, e1, hy, hbB, d0, d1, d2, d3, hyr⟩ := notes_at2 HV.out hj
      injection e1 with e1a e1b e1c
      subst e1a
      clear e1b e1c
      have HN := Lib.hid hn
      have HY := Lib.hid hy
      have HR := Lib.hid hyr
      have hw : IntKind.i64.wrap ((j : Int) - 1) = (j : Int) - 1 := IntWalk.i64_in _ (by omega)
      clear hn hy hyr
      by_cases h1 : y.kind = 1
      · have ek : (y.kind == 1) = true := by simp [h1]
        by_cases h2 : y.tx = tx
        · have et : (y.tx == tx) = true := by simp [h2]
          have HH := Lib.hid (ready_here HN.out HY.out (rdyB_yes h1 h2))
          clear h1 h2
          go_wp2
          have HRn := Lib.hid (noteSh.rkeep HR.out (w' := w.alloc (.cells #[.int .i64 y.kind, .int .i64 y.tx, .slice A1 y.locks.length c1, .slice A2 y.writes.length c2] 36)) fun b o hb => ((belowOne w _).cell (p := ⟨b, o, none⟩) (by show b < w.heap.size; omega)).trans ((belowOne w (.cells #[.int .i64 0, .int .i64 0, .slice none 0 0, .slice none 0 0] 36)).cell (p := ⟨b, o, none⟩) (by show b < w.heap.size; omega)).symm)
          have HQ := Held.new w #[.int .i64 y.kind, .int .i64 y.tx, .slice A1 y.locks.length c1, .slice A2 y.writes.length c2] 36
          have q0 := HQ.of 0 _ rfl
          have q1 := HQ.of 1 _ rfl
          have q2 := HQ.of 2 _ rfl
          have q3 := HQ.of 3 _ rfl
          refine bodyPost_ret (v := .tuple #[.agg #[.int .i64 y.kind, .int .i64 y.tx, .slice A1 y.locks.length c1, .slice A2 y.writes.length c2], .bool true]) ?_ rfl ⟨y, true, A1, c1, A2, c2, rfl, HRn.out, .inl ⟨rfl, HH.out⟩, belowOne w _⟩
          simp [results, Try.results83, go_sem, q0, q1, q2, q3]
        · have et : (y.tx == tx) = false := by simp [h2]
          have HH := Lib.hid (ready_down HN.out HY.out (rdyB_no (.inr h2)))
          clear h1 h2 k0 k1 k2 k3 kf
          go_wp2
          go_round
          case rel =>
            rcases Nat.eq_zero_or_pos j with h | h
            · subst h; exact .inl ⟨by simp, HH.out⟩
            · exact .inr ⟨j - 1, by omega, by congr 1; omega, by rw [show j - 1 + 1 = j by omega]; exact HH.out⟩
          case measure => simp [intOf]
      · have ek : (y.kind == 1) = false := by simp [h1]
        have HH := Lib.hid (ready_down HN.out HY.out (rdyB_no (.inl h1)))
        clear h1 k0 k1 k2 k3 kf
        go_wp2
        go_round
        case rel =>
          rcases Nat.eq_zero_or_pos j with h | h
          · subst h; exact .inl ⟨by simp, HH.out⟩
          · exact .inr ⟨j - 1, by omega, by congr 1; omega, by rw [show j - 1 + 1 = j by omega]; exact HH.out⟩
        case measure => simp [intOf]

end Go.Proofs.Ytkamlibfcakblaa

/- The program's StoDo. -/
namespace Go.Proofs.Ytkamlibfcakblaa
open Go.RowKit

/-- A store of its own, as a record. -/
def StoMade (its : List Item) (w : World) (e : Ending) (w' : World) : Prop :=
  ∃ u, e = .returned (.agg #[u]) ∧ itSh.Own 104 w' (fun b => w.heap.size ≤ b ∧ b < w'.heap.size) u its ∧ Below w.heap.size w w'
theorem wAll_short {its : List Item} {x : Wr} (h : Fine its) (hx : x.ok = true) : Fine (wAll x.key x.del x.val its) := Fine.wAll h (Wr.fine hx)

set_option maxRecDepth 100000 in
set_option maxHeartbeats 2000000 in
theorem implStoDo_any (w : World) (v lv : Value) (its : List Item) (ws : List Wr) (hv : Items w w.heap.size v its) (hw : Wrts w w.heap.size lv ws) :
    Calls Try.prog 38 #[.agg #[v], lv] w (StoMade (stoDo its ws) w) := by
  obtain ⟨A, c, rfl, hc2, hc1⟩ := hv.form
  obtain ⟨A2, c2, rfl, hd2, hd1⟩ := hw.form
  unfold maxLen at hc2 hd2
  have HB := Lib.hid (belowTwo w (.cells #[.slice A its.length c] 54) (.cells #[.slice none 0 0] 54))
  have HX := Lib.hid ((Held.new w #[.slice A its.length c] 54).after (.cells #[.slice none 0 0] 54))
  have HR := Lib.hid (show Held ((w.alloc (.cells #[.slice A its.length c] 54)).alloc (.cells #[.slice none 0 0] 54)) (w.heap.size + 1) [.slice none 0 0] from by have h := Held.new (w.alloc (.cells #[.slice A its.length c] 54)) #[.slice none 0 0] 54; rwa [allocSize] at h)
  have HV := Lib.hid hv
  have HW := Lib.hid hw
  clear hv hw
  go_enter Try.func38, Try.ntmps38
  go_wp2_with fail
  refine (implStoOk_any _ _ _ ((HV.out.below HB.out).more HB.out.size)).mono ?_
  rintro e w1 ⟨rfl, hb1⟩
  have HB1 := Lib.hid (belowNext HB.out hb1)
  have HX1 := Lib.hid (HX.out.below hb1 HX.out.1)
  have HR1 := Lib.hid (HR.out.below hb1 HR.out.1)
  clear hb1 HB HX HR
  cases hs : stoB its with
  | false =>
    have HE := Lib.hid (doNot ws hs)
    clear hs
    have r0 := HR1.out.of 0 _ rfl
    have rf := HR1.out.2.1
    go_wp2
    have HR2 := HR1.out.set_ (i := 0) (.slice none 0 0)
    have q0 := HR2.of 0 _ rfl
    refine bodyPost_ret (v := .agg #[.slice none 0 0]) (by simp only [results, Try.results38, go_sem]; simp [go_sem, q0]) rfl ⟨_, rfl, by rw [HE.out]; exact Sh.Own.nil _ _, HB1.out.setCell (by show w.heap.size ≤ w.heap.size + 1; omega) _⟩
  | true =>
    go_wp2_with fail
    refine (writesOk_any _ _ ws (wrts_row.1 ((wrts_row.2 (HW.out.below HB1.out)).more HB1.out.size))).mono ?_
    rintro e w2 ⟨rfl, hb2⟩
    have HB2 := Lib.hid (belowNext HB1.out hb2)
    have HX2 := Lib.hid (HX1.out.below hb2 HX1.out.1)
    have HR2 := Lib.hid (HR1.out.below hb2 HR1.out.1)
    clear hb2 HB1 HX1 HR1
    have r0 := HR2.out.of 0 _ rfl
    have rf := HR2.out.2.1
    cases hok : ws.all Wr.ok with
    | false =>
      have HE : Hid (stoDo its ws = []) := Lib.hid (by
        obtain ⟨x, hx, hxo⟩ := List.all_eq_false.1 hok
        obtain ⟨j, hj, rfl⟩ := List.getElem_of_mem hx
        exact doneBad (List.getElem?_eq_getElem hj) (by simpa using hxo))
      clear hs hok
      go_wp2
      have HR3 := HR2.out.set_ (i := 0) (.slice none 0 0)
      have q0 := HR3.of 0 _ rfl
      refine bodyPost_ret (v := .agg #[.slice none 0 0]) (by simp only [results, Try.results38, go_sem]; simp [go_sem, q0]) rfl ⟨_, rfl, by rw [HE.out]; exact Sh.Own.nil _ _, HB2.out.setCell (by show w.heap.size ≤ w.heap.size + 1; omega) _⟩
    | true =>
      have HS := Lib.hid hs
      have HOk := Lib.hid fun x hx => List.all_eq_true.1 hok x hx
      have HFi := Lib.hid (stoB_fine hs)
      have h40 := (stoB_fine hs).1
      clear hs hok
      have x0 := HX2.out.of 0 _ rfl
      have hz2 : w.heap.size + 1 < w2.heap.size := HR2.out.1
      go_wp2_with fail
      refine (copyItems_any _ _ its ((HV.out.below HB2.out).more HB2.out.size) (by omega) HFi.out.2.short).mono ?_
      rintro e w3 ⟨u3, rfl, ho3, hb3⟩
      obtain ⟨A3, c3, hf3, -, -⟩ := ho3.row.form
      subst hf3
      have HO3 := Lib.hid ho3
      have HB3 := Lib.hid hb3
      clear ho3 hb3 x0 r0 rf
      go_wp2
      go_loopw [5, 22] (fun l i wr => ∃ (k : Nat) (cur : List Item) (Al : Option Addr) (cl : Nat), k ≤ ws.length ∧ i = .int .i64 k ∧ l = .slice Al cur.length cl ∧ (ws.take k).foldl doStep (some its) = some cur ∧ Rise cur cur.length ∧ cur.length ≤ 40 ∧ itSh.Own 104 wr (fun b => w2.heap.size ≤ b ∧ b < wr.heap.size) (.slice Al cur.length cl) cur ∧ Below w2.heap.size w2 wr) (fun _ i _ => ws.length - (intOf i).toNat)
      case atStart => exact ⟨0, its, A3, c3, Nat.zero_le _, rfl, rfl, rfl, stoB_rise HS.out, h40, HO3.out, HB3.out⟩
      case round =>
        clear HO3 HB3
        obtain ⟨k, cur, Al, cl, hk, rfl, rfl, hcur, hri, hc40, ho, hb⟩ := hrel
        have HRr := Lib.hid (HR2.out.below hb hz2)
        have HBr := Lib.hid (HB2.out.trans (hb.mono (by omega)))
        have hzr := hb.size
        by_cases hlt : k < ws.length
        · obtain ⟨b, off, c', x, u, e1, hx, hB, hs, d0, d1, d2, hu⟩ := (HW.out.below HBr.out).at_ (k := k) hlt
          obtain ⟨A', c'', hu', hu2, hu3⟩ := hu.form
          subst hu'
          injection e1 with e1a e1b e1c
          subst e1a
          have hxo := HOk.out x (List.mem_of_getElem? hx)
          have hxf := Wr.fine hxo
          have HXo := Lib.hid hxo
          obtain ⟨key, del, val⟩ := x
          simp only at hs d0 d1 d2 hu hu2 hu3 hxf
          obtain ⟨f1, -, f3, -⟩ := wAll_facts (wk := key) (wv := val) hri del
          have hlen : (wAll key del val cur).length ≤ 41 := by
            have : (if del = true then 0 else 1) ≤ 1 := by split <;> omega
            omega
          have HT := Lib.hid (Held.new wr #[.string key, .bool del, .slice A' val.length c''] 86)
          have HF1 := Lib.hid f1
          have HCur := Lib.hid hcur
          have HRi := Lib.hid hri
          have HX := Lib.hid hx
          have HO := Lib.hid (ho.below (belowOne wr (.cells #[.string key, .bool del, .slice A' val.length c''] 86)))
          have HB := Lib.hid (hb.alloc hb.size (.cells #[.string key, .bool del, .slice A' val.length c''] 86))
          have HU := Lib.hid (show Ints ((wr.alloc (.cells #[.string key, .bool del, .slice A' val.length c''] 86)).drew) w.heap.size _ val from hu.alloc HBr.out.size (.cells #[.string key, .bool del, .slice A' val.length c''] 86))
          clear e1b e1c hu hx hcur hri hb ho f1 f3 hxo
          cases del with
          | true =>
            have t0 := HT.out.of 0 _ rfl
            have t1 := HT.out.of 1 _ rfl
            go_wp2_with fail
            refine (drop_any _ _ _ cur HO.out (by omega) HRi.out key val).mono ?_
            rintro e w5 ⟨v5, rfl, ho5, hg5⟩
            obtain ⟨A5, c5, hf5, -, -⟩ := ho5.row.form
            subst hf5
            have HO5 := Lib.hid (Sh.Own.mono (S' := fun b => w2.heap.size ≤ b ∧ b < w5.heap.size) ho5.cap (fun b hb => ⟨by rcases hb.1 with h | h; exact h.1; rw [allocSize] at h; omega, hb.2⟩))
            have HB5 := Lib.hid (HB.out.grown hg5 (by rw [allocSize]; omega) (fun q hq => (HO.out.blk q hq).1))
            clear ho5 hg5 t0 t1
            have HR5 := Lib.hid (HR2.out.below HB5.out hz2)
            have HBw := Lib.hid (HB2.out.trans (HB5.out.mono (by omega)))
            have r0 := HR5.out.of 0 _ rfl
            have rf := HR5.out.2.1
            by_cases h41 : 40 < (wAll key true val cur).length
            · have HE := Lib.hid (doBad HS.out HX.out HCur.out (.inr h41))
              have h41' : (40 : Int) < ((wAll key true val cur).length : Int) := by omega
              go_wp2
              have HR6 := HR5.out.set_ (i := 0) (.slice none 0 0)
              have q0 := HR6.of 0 _ rfl
              refine bodyPost_ret (v := .agg #[.slice none 0 0]) (by simp only [results, Try.results38, go_sem]; simp [go_sem, q0]) rfl ⟨_, rfl, by rw [HE.out]; exact Sh.Own.nil _ _, HBw.out.setCell (by show w.heap.size ≤ w.heap.size + 1; omega) _⟩
            · have HN := Lib.hid (doGood HX.out HCur.out HXo.out h41)
              have h41' : ((wAll key true val cur).length : Int) ≤ 40 := by omega
              go_wp2
              go_roundw
              case rel => exact ⟨k + 1, _, A5, c5, by omega, by go_num, rfl, HN.out, HF1.out, by omega, HO5.out, HB5.out⟩
              case measure => simp [intOf]; omega
          | false =>
            have k0 := And.intro (HT.out.of 0 _ rfl) (HT.out.of 2 _ rfl)
            have t1 := HT.out.of 1 _ rfl
            go_wp2
            clear t1
            refine wp_region_held_drew (S := (fun w' => w'.cell? ⟨wr.heap.size, 0, none⟩ = some (.string key) ∧ w'.cell? ⟨wr.heap.size, 2, none⟩ = some (.slice A' val.length c''))) (by kernel_rfl) ?hSq (fun hHeldq => ?stq)
            case hSq => (first | (dsimp only; (first | with_reducible exact k2 | with_reducible exact k1 | exact k0)) | (first | with_reducible exact k2 | with_reducible exact k1 | exact k0))
            refine take_first 0 32 (v := ?vq_1) rfl rfl (by kernel_rfl) (by kernel_rfl) (by kernel_rfl) (fun _ _ _ h => h) (by rfl) ?yq_1 (by assumption) ?rq_1
            case yq_1 => (intro w hSw; (try dsimp only at hSw); go_simp; (try with_reducible rfl))
            simp only [Act.put, List.setIfInBounds_toArray, List.set_cons_zero, List.set_cons_succ]
            refine take_first 1 33 (v := ?vq_2) rfl rfl (by kernel_rfl) (by kernel_rfl) (by kernel_rfl) (fun _ _ _ h => h) (by rfl) ?yq_2 (by assumption) ?rq_2
            case yq_2 => (intro w hSw; (try dsimp only at hSw); go_simp; (try with_reducible rfl))
            simp only [Act.put, List.setIfInBounds_toArray, List.set_cons_zero, List.set_cons_succ]
            refine take_first 2 34 (v := ?vq_3) rfl rfl (by kernel_rfl) (by kernel_rfl) (by kernel_rfl) (fun _ _ _ h => h) (by rfl) ?yq_3 (by assumption) ?rq_3
            case yq_3 => (intro w hSw; (try dsimp only at hSw); go_simp; (try with_reducible rfl))
            simp only [Act.put, List.setIfInBounds_toArray, List.set_cons_zero, List.set_cons_succ]
            refine take_first 3 35 (v := ?vq_4) rfl rfl (by kernel_rfl) (by kernel_rfl) (by kernel_rfl) (fun _ _ _ h => h) (by rfl) ?yq_4 (by assumption) ?rq_4
            case yq_4 => (intro w hSw; (try dsimp only at hSw); go_simp; (try with_reducible rfl))
            simp only [Act.put, List.setIfInBounds_toArray, List.set_cons_zero, List.set_cons_succ]
            refine take_first 4 36 (v := ?vq_5) rfl rfl (by kernel_rfl) (by kernel_rfl) (by kernel_rfl) (fun _ _ _ h => h) (by rfl) ?yq_5 (by assumption) ?rq_5
            case yq_5 => (intro w hSw; (try dsimp only at hSw); go_simp; (try with_reducible rfl))
            simp only [Act.put, List.setIfInBounds_toArray, List.set_cons_zero, List.set_cons_succ]
            refine wpAnyH_ready (rs := [5]) (by kernel_rfl) (by simp) ?_
            refine AllReadyH.cons (o := _) rfl (fun Kq_6 hKq_6 => ?cq_6) ?mq_6
            case mq_6 => exact AllReadyH.nil
            go_simp
            refine (clone_sh _ _ val (HU.out.more (by show _ ≤ (World.alloc _ _).heap.size; rw [allocSize]; omega)) (by omega)).mono ?_; rintro e w4 ⟨u4, rfl, hu4, hb4⟩; obtain ⟨A4, c4, hf4, -, -⟩ := hu4.row.form; subst hf4; have HT4 := Lib.hid (HT.out.onward hb4 rfl); have k1 := And.intro (HT4.out.of 0 _ rfl) (HT4.out.of 2 _ rfl); have HO4 := Lib.hid (Sh.Own.below (w := (wr.alloc (.cells #[.string key, .bool false, .slice A' val.length c''] 86)).drew) HO.out hb4); have hz4 : wr.heap.size < w4.heap.size := HT4.out.1; have HB4 := Lib.hid (HB.out.drew.trans (hb4.mono (by show _ ≤ (World.alloc _ _).heap.size; rw [allocSize]; omega))); have HU4 := Lib.hid (Sh.Own.mono (S' := fun b => wr.heap.size < b ∧ b < w4.heap.size) hu4 (fun b hb => ⟨by have h := hb.1; have h2 : (wr.alloc (.cells #[.string key, .bool false, .slice A' val.length c''] 86)).drew.heap.size = wr.heap.size + 1 := allocSize _ _; omega, hb.2⟩)); clear hu4 hb4
            go_wp2_with fail
            refine hKq_6.out _ _ ?kq_6 (fun hHeldq_6 => ?dq_6)
            case kq_6 => (first | (dsimp only; (first | with_reducible exact k2 | with_reducible exact k1 | exact k0)) | (first | with_reducible exact k2 | with_reducible exact k1 | exact k0))
            clear hKq_6 Kq_6
            refine take_first 6 38 (v := ?vq_7) rfl rfl (by kernel_rfl) (by kernel_rfl) (by kernel_rfl) (fun _ _ _ h => h) (by rfl) ?yq_7 (by assumption) ?rq_7
            case yq_7 => (intro w hSw; (try dsimp only at hSw); go_simp; (try with_reducible rfl))
            simp only [Act.put, List.setIfInBounds_toArray, List.set_cons_zero, List.set_cons_succ]
            refine wpAnyH_ready (rs := [7]) (by kernel_rfl) (by simp) ?_
            refine AllReadyH.cons (o := _) rfl (fun Kq_8 hKq_8 => ?cq_8) ?mq_8
            case mq_8 => exact AllReadyH.nil
            go_simp
            refine (put_any _ _ _ _ cur HO4.out (by omega) HRi.out ⟨key, val⟩ _ (it_own.2 ⟨_, rfl, hs, HU4.out⟩) (fun b hb => by have := hb.2; omega) (fun b hb hb2 => by have := hb.2; have := hb2.1; omega)).mono ?_; rintro e w5 ⟨v5, rfl, ho5, hg5⟩; obtain ⟨A5, c5, hf5, -, -⟩ := ho5.row.form; subst hf5; have HT5 := Lib.hid (HT4.out.outs (Outs.of_grown (S := fun b => w2.heap.size ≤ b ∧ b < wr.heap.size) hg5 (HO4.out.blk)) (fun h => by have := h.2; omega)); have k2 := And.intro (HT5.out.of 0 _ rfl) (HT5.out.of 2 _ rfl); have HP5 := Lib.hid ho5; have HG5 := Lib.hid hg5; clear ho5 hg5
            go_wp2_with fail
            refine hKq_8.out _ _ ?kq_8 (fun hHeldq_8 => ?dq_8)
            case kq_8 => (first | (dsimp only; (first | with_reducible exact k2 | with_reducible exact k1 | exact k0)) | (first | with_reducible exact k2 | with_reducible exact k1 | exact k0))
            clear hKq_8 Kq_8
            refine take_first 8 5 (v := ?vq_9) rfl rfl (by kernel_rfl) (by kernel_rfl) (by kernel_rfl) (fun _ _ _ h => h) (by rfl) ?yq_9 (by assumption) ?rq_9
            case yq_9 => (intro w hSw; (try dsimp only at hSw); go_simp; (try with_reducible rfl))
            simp only [Act.put, List.setIfInBounds_toArray, List.set_cons_zero, List.set_cons_succ]
            refine wpAnyH_done (by kernel_rfl) ?eq _
            have HO5 := Lib.hid (Sh.Own.mono (S' := fun b => w2.heap.size ≤ b ∧ b < w5.heap.size) HP5.out.cap (fun b hb => ⟨by rcases hb.1 with (h | h) | h; exact h.1; have := h.1; omega; omega, hb.2⟩))
            have HB5 := Lib.hid (HB4.out.grown HG5.out (by omega) (fun q hq => (HO4.out.blk q hq).1))
            clear k0 k1 k2 HT HT4 HT5 HP5 HG5
            have HR5 := Lib.hid (HR2.out.below HB5.out hz2)
            have HBw := Lib.hid (HB2.out.trans (HB5.out.mono (by omega)))
            have r0 := HR5.out.of 0 _ rfl
            have rf := HR5.out.2.1
            by_cases h41 : 40 < (wAll key false val cur).length
            · have HE := Lib.hid (doBad HS.out HX.out HCur.out (.inr h41))
              have h41' : (40 : Int) < ((wAll key false val cur).length : Int) := by omega
              go_wp2
              have HR6 := HR5.out.set_ (i := 0) (.slice none 0 0)
              have q0 := HR6.of 0 _ rfl
              refine bodyPost_ret (v := .agg #[.slice none 0 0]) (by simp only [results, Try.results38, go_sem]; simp [go_sem, q0]) rfl ⟨_, rfl, by rw [HE.out]; exact Sh.Own.nil _ _, HBw.out.setCell (by show w.heap.size ≤ w.heap.size + 1; omega) _⟩
            · have HN := Lib.hid (doGood HX.out HCur.out HXo.out h41)
              have h41' : ((wAll key false val cur).length : Int) ≤ 40 := by omega
              go_wp2
              go_roundw
              case rel => exact ⟨k + 1, _, A5, c5, by omega, by go_num, rfl, HN.out, HF1.out, by omega, HO5.out, HB5.out⟩
              case measure => simp [intOf]; omega
        · have HE := Lib.hid (doEnd HS.out ((show k = ws.length by omega) ▸ hcur))
          have HO := Lib.hid ho
          have r0 := HRr.out.of 0 _ rfl
          have rf := HRr.out.2.1
          clear hcur ho hb hri
          go_wp2
          have HR4 := HRr.out.set_ (i := 0) (.slice Al cur.length cl)
          have q0 := HR4.of 0 _ rfl
          refine bodyPost_ret (v := .agg #[.slice Al cur.length cl]) (by simp only [results, Try.results38, go_sem]; simp [go_sem, q0]) rfl ⟨_, rfl, ?_, HBr.out.setCell (by show w.heap.size ≤ w.heap.size + 1; omega) _⟩
          rw [HE.out]
          exact (HO.out.keep fun b hb' _ => Below.heap_setCell _ _ _ _ (by show b ≠ w.heap.size + 1; have := hb'.1; omega)).mono fun b hb' => ⟨by have := hb'.1; omega, by simpa [World.setCell] using hb'.2⟩

end Go.Proofs.Ytkamlibfcakblaa
