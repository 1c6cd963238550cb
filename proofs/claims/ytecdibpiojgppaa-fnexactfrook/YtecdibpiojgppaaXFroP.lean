/- Texts that follow each other, merged: FroP, DiskOf. -/
import Derived.Test.YtecdibpiojgppaaXShapesFro
import Derived.Test.YtecdibpiojgppaaXPlaces
import Derived.Test.YtecdibpiojgppaaXLastKind
import Derived.Test.YtecdibpiojgppaaXOpOk

/- When a front is ok: plain facts. -/
namespace Go.Proofs.Ytecdibpiojgppaa
open Go.RowKit

/-- All are of what is so, or known. -/
def outB (ns : List Note) : Bool := ns.all fun n => n.kind == 2 || n.kind == 4
/-- Something under way is ok, where it is logged or not. -/
def actB (x : FTx) (logged : Bool) : Bool := inB x.tx 0 29 && ((x.yes == logged) && (plsB x.can && (plsB x.know && (x.yes || (opB x.op && decide (x.know.length = 0))))))
/-- What is under way is ok, and rises, all past p. -/
def wayB (ns : List Note) : Int → List FTx → Bool
  | _, [] => true
  | p, x :: l => actB x (lastK ns x.tx == 2) && (decide (p < x.tx) && wayB ns x.tx l)
/-- A front is ok. -/
def froB (x : Fro) : Bool := diskB x.disk && (outB x.disk.notes && (decide (x.way.length ≤ 30) && wayB x.disk.notes (-1) x.way))
/-- The number ahead of the k-th. -/
def pvT (ws : List FTx) (k : Nat) : Int := if k = 0 then -1 else (ws[k - 1]?).elim (-1) (·.tx)
theorem pvT_zero (ws : List FTx) : pvT ws 0 = -1 := rfl
theorem pvT_next {ws : List FTx} {k : Nat} {x : FTx} (h : ws[k]? = some x) : pvT ws (k + 1) = x.tx := by
  unfold pvT
  rw [if_neg (by omega), Nat.add_sub_cancel, h]; rfl
theorem way_at {ns : List Note} {ws : List FTx} {k : Nat} {x : FTx} (h : ws[k]? = some x) : wayB ns (pvT ws k) (ws.drop k) = (actB x (lastK ns x.tx == 2) && (decide (pvT ws k < x.tx) && wayB ns (pvT ws (k + 1)) (ws.drop (k + 1)))) := by
  obtain ⟨hk, e⟩ := List.getElem?_eq_some_iff.1 h
  have hd : ws.drop k = x :: ws.drop (k + 1) := by rw [← e]; exact (List.getElem_cons_drop hk).symm
  rw [hd, pvT_next h]
  rfl
theorem way_end {ns : List Note} {ws : List FTx} {k : Nat} (h : ws.length ≤ k) (p : Int) : wayB ns p (ws.drop k) = true := by
  rw [List.drop_eq_nil_of_le h]; rfl
theorem out_take {ns : List Note} {k : Nat} {x : Note} (h : ns[k]? = some x) : outB (ns.take (k + 1)) = (outB (ns.take k) && (x.kind == 2 || x.kind == 4)) := by
  unfold outB
  rw [List.take_add_one, h, List.all_append]
  simp
theorem out_no {ns : List Note} {k : Nat} {x : Note} (h : ns[k]? = some x) (h2 : (x.kind == 2) = false) (h4 : (x.kind == 4) = false) : outB ns = false := by
  unfold outB
  rw [List.all_eq_false]
  exact ⟨x, List.mem_of_getElem? h, by simp [h2, h4]⟩
theorem act_pos {x : FTx} {l : Bool} (h : actB x l = true) : 0 ≤ x.tx := by
  unfold actB at h
  simp only [Bool.and_eq_true] at h
  have := h.1
  unfold inB at this
  rw [decide_eq_true_iff] at this
  exact this.1

end Go.Proofs.Ytecdibpiojgppaa

/- What DiskOf answers, of the program and of the model: the same. -/
namespace Go.Proofs.Ytecdibpiojgppaa
open Go.RowKit

/-- What DiskOf answers. -/
def ofD (x : Disk) (tx : Int) : Int := if diskB x = true then lastK x.notes tx else 0
theorem ofD_no {x : Disk} {tx : Int} (h : diskB x = false) : ofD x tx = 0 := by unfold ofD; rw [h]; rfl
theorem ofD_yes {x : Disk} {tx : Int} (h : diskB x = true) : ofD x tx = lastK x.notes tx := by unfold ofD; rw [h]; rfl
theorem lastK_take {ns : List Note} {tx : Int} {k : Nat} {y : Note} (h : ns[k]? = some y) : lastK (ns.take (k + 1)) tx = stepK tx (lastK (ns.take k) tx) y := by
  unfold lastK; rw [take_snoc h, List.foldl_append]; rfl

theorem l2Of_any (w : World) (B : Nat) (v : Value) (ns : List Note) (tx : Int) (hv : noteSh.Row w B v ns) :
    Calls Try.prog 76 #[v, .int .i64 tx] w fun e w' => e = .returned (.int .i64 (lastK ns tx)) ∧ w = w' := by
  obtain ⟨A, c, rfl, hc2, hc1⟩ := hv.form
  unfold maxLen at hc2
  go_enter Try.func76, Try.ntmps76
  go_wp2
  go_loop [5, 6] (fun h i => ∃ k : Nat, k ≤ ns.length ∧ i = .int .i64 k ∧ h = .int .i64 (lastK (ns.take k) tx)) (fun _ i => ns.length - (intOf i).toNat)
  case atStart => exact ⟨0, Nat.zero_le _, rfl, rfl⟩
  case round =>
    obtain ⟨k, hk, rfl, rfl⟩ := hrel
    by_cases hlt : k < ns.length
    · obtain ⟨b, off, c', y, A1, c1, A2, c2, e1, hx, hB, d0, d1, d2, d3, -⟩ := notes_at2 hv hlt
      injection e1 with e1a e1b e1c
      subst e1a
      have HT := Lib.hid (lastK_take (tx := tx) hx)
      clear e1b e1c hv hx
      by_cases h1 : y.tx = tx
      · have e1 : (y.tx == tx) = true := by simp [h1]
        by_cases h2 : y.kind = 4
        · have e2 : (y.kind != 4) = false := by simp [h2]
          have HH : Hid (stepK tx (lastK (ns.take k) tx) y = lastK (ns.take k) tx) := Lib.hid (by unfold stepK hitK; simp [h2])
          clear h1 h2
          go_wp2
          go_round
          case rel => exact ⟨k + 1, by omega, by go_num, by rw [HT.out, HH.out]⟩
          case measure => simp [intOf]; omega
        · have e2 : (y.kind != 4) = true := by simp [h2]
          have HH : Hid (stepK tx (lastK (ns.take k) tx) y = y.kind) := Lib.hid (by unfold stepK hitK; simp [h1, h2])
          clear h1 h2
          go_wp2
          go_round
          case rel => exact ⟨k + 1, by omega, by go_num, by rw [HT.out, HH.out]⟩
          case measure => simp [intOf]; omega
      · have e1 : (y.tx == tx) = false := by simp [h1]
        have HH : Hid (stepK tx (lastK (ns.take k) tx) y = lastK (ns.take k) tx) := Lib.hid (by unfold stepK hitK; simp [h1])
        clear h1
        go_wp2
        go_round
        case rel => exact ⟨k + 1, by omega, by go_num, by rw [HT.out, HH.out]⟩
        case measure => simp [intOf]; omega
    · have hks : k = ns.length := by omega
      have HE : Hid (lastK (ns.take k) tx = lastK ns tx) := Lib.hid (by rw [hks, List.take_length])
      clear hks hv
      go_wp2
      go_ret
      exact ⟨ret_int HE.out, rfl⟩

end Go.Proofs.Ytecdibpiojgppaa
