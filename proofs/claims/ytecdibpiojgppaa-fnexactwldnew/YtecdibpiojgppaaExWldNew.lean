/- The walk of FnExactWldNew. By wnewgen.py. -/
import Derived.Test.YtecdibpiojgppaaMLogDisk
import Derived.Test.YtecdibpiojgppaaDrawBox
import Derived.Test.YtecdibpiojgppaaPlanSh
import Derived.Deep.CutRange
namespace Go.Proofs.Ytecdibpiojgppaa
open Go.RowKit

def newD : List Disk := [⟨[], 0⟩, ⟨[], 0⟩, ⟨[], 0⟩]
theorem newD_wt : disksSh.wt newD = 3 := rfl
theorem newD_cnt : cntL diskSh.cnt newD = 3 := rfl
theorem newD_is : List.replicate 3 diskSh.z = newD := rfl
/-- Three marked places in which nothing is noted weigh three. -/
theorem newD_marked {ys : List Disk} (hl : ys.length = newD.length) (hc : cntL diskSh.cnt ys = cntL diskSh.cnt newD) : disksSh.wt ys = 3 := by
  match ys, hl with
  | [a, b, c], _ =>
    have h2 : ∀ (l : List Note), cntL noteSh.cnt l = 0 → l = [] := fun l h => by
      match l with
      | [] => rfl
      | x :: l =>
        have : cntL noteSh.cnt (x :: l) = noteSh.cnt x + cntL noteSh.cnt l := rfl
        have h3 : noteSh.cnt x = 1 + (1 + (cntL strSh.cnt x.locks + cntL wrSh.cnt x.writes)) := rfl
        omega
    have hd : ∀ d : Disk, diskSh.cnt d = cntL noteSh.cnt d.notes + 1 := fun d => rfl
    have hs : cntL diskSh.cnt [a, b, c] = diskSh.cnt a + (diskSh.cnt b + (diskSh.cnt c + 0)) := rfl
    rw [hs, hd, hd, hd, newD_cnt] at hc
    obtain ⟨an, a2⟩ := a
    obtain ⟨bn, b2⟩ := b
    obtain ⟨cn, c2⟩ := c
    obtain rfl := h2 an (by show cntL noteSh.cnt an = 0; have : cntL noteSh.cnt an + 1 + (cntL noteSh.cnt bn + 1 + (cntL noteSh.cnt cn + 1 + 0)) = 3 := hc; omega)
    obtain rfl := h2 bn (by show cntL noteSh.cnt bn = 0; have : cntL noteSh.cnt [] + 1 + (cntL noteSh.cnt bn + 1 + (cntL noteSh.cnt cn + 1 + 0)) = 3 := hc; omega)
    obtain rfl := h2 cn (by show cntL noteSh.cnt cn = 0; have : cntL noteSh.cnt [] + 1 + (cntL noteSh.cnt [] + 1 + (cntL noteSh.cnt cn + 1 + 0)) = 3 := hc; omega)
    rfl
set_option maxRecDepth 100000

theorem eqLogNoteS_nil (w : World) : Calls Try.prog 96 #[.slice none 0 0, .slice none 0 0] w fun e w' => e = .returned (.bool true) ∧ w = w' := by
  go_enter Try.func96, Try.ntmps96
  go_wp2
  go_loop [5] (fun i => i = .int .i64 0) (fun _ => 0)
  case atStart => rfl
  case round =>
    obtain rfl := hrel
    go_wp2
    go_ret
    exact ⟨rfl, rfl⟩
theorem markLogNoteS_nil (w : World) (k : Int) : Calls Try.prog 99 #[.slice none 0 0, .int .i64 k] w fun e w' => e = .returned (.int .i64 k) ∧ w = w' := by
  go_enter Try.func99, Try.ntmps99
  go_wp2
  go_loop [1, 5] (fun a i => a = .int .i64 k ∧ i = .int .i64 0) (fun _ _ => 0)
  case atStart => exact ⟨rfl, rfl⟩
  case round =>
    obtain ⟨rfl, rfl⟩ := hrel
    go_wp2
    go_ret
    exact ⟨rfl, rfl⟩
theorem heldLogNoteS_nil (w : World) (k : Int) : Calls Try.prog 102 #[.slice none 0 0, .int .i64 k] w fun e w' => e = .returned (.int .i64 k) ∧ w = w' := by
  go_enter Try.func102, Try.ntmps102
  go_wp2
  go_loop [1, 5] (fun a i => a = .int .i64 k ∧ i = .int .i64 0) (fun _ _ => 0)
  case atStart => exact ⟨rfl, rfl⟩
  case round =>
    obtain ⟨rfl, rfl⟩ := hrel
    go_wp2
    go_ret
    exact ⟨rfl, rfl⟩

theorem eqFroTxS_nil (w : World) : Calls Try.prog 84 #[.slice none 0 0, .slice none 0 0] w fun e w' => e = .returned (.bool true) ∧ w = w' := by
  go_enter Try.func84, Try.ntmps84
  go_wp2
  go_loop [5] (fun i => i = .int .i64 0) (fun _ => 0)
  case atStart => rfl
  case round =>
    obtain rfl := hrel
    go_wp2
    go_ret
    exact ⟨rfl, rfl⟩
theorem markFroTxS_nil (w : World) (k : Int) : Calls Try.prog 156 #[.slice none 0 0, .int .i64 k] w fun e w' => e = .returned (.int .i64 k) ∧ w = w' := by
  go_enter Try.func156, Try.ntmps156
  go_wp2
  go_loop [1, 5] (fun a i => a = .int .i64 k ∧ i = .int .i64 0) (fun _ _ => 0)
  case atStart => exact ⟨rfl, rfl⟩
  case round =>
    obtain ⟨rfl, rfl⟩ := hrel
    go_wp2
    go_ret
    exact ⟨rfl, rfl⟩
theorem heldFroTxS_nil (w : World) (k : Int) : Calls Try.prog 157 #[.slice none 0 0, .int .i64 k] w fun e w' => e = .returned (.int .i64 k) ∧ w = w' := by
  go_enter Try.func157, Try.ntmps157
  go_wp2
  go_loop [1, 5] (fun a i => a = .int .i64 k ∧ i = .int .i64 0) (fun _ _ => 0)
  case atStart => exact ⟨rfl, rfl⟩
  case round =>
    obtain ⟨rfl, rfl⟩ := hrel
    go_wp2
    go_ret
    exact ⟨rfl, rfl⟩

theorem eqMsgMsgS_nil (w : World) : Calls Try.prog 105 #[.slice none 0 0, .slice none 0 0] w fun e w' => e = .returned (.bool true) ∧ w = w' := by
  go_enter Try.func105, Try.ntmps105
  go_wp2
  go_loop [5] (fun i => i = .int .i64 0) (fun _ => 0)
  case atStart => rfl
  case round =>
    obtain rfl := hrel
    go_wp2
    go_ret
    exact ⟨rfl, rfl⟩
theorem markMsgMsgS_nil (w : World) (k : Int) : Calls Try.prog 110 #[.slice none 0 0, .int .i64 k] w fun e w' => e = .returned (.int .i64 k) ∧ w = w' := by
  go_enter Try.func110, Try.ntmps110
  go_wp2
  go_loop [1, 5] (fun a i => a = .int .i64 k ∧ i = .int .i64 0) (fun _ _ => 0)
  case atStart => exact ⟨rfl, rfl⟩
  case round =>
    obtain ⟨rfl, rfl⟩ := hrel
    go_wp2
    go_ret
    exact ⟨rfl, rfl⟩
theorem heldMsgMsgS_nil (w : World) (k : Int) : Calls Try.prog 115 #[.slice none 0 0, .int .i64 k] w fun e w' => e = .returned (.int .i64 k) ∧ w = w' := by
  go_enter Try.func115, Try.ntmps115
  go_wp2
  go_loop [1, 5] (fun a i => a = .int .i64 k ∧ i = .int .i64 0) (fun _ _ => 0)
  case atStart => exact ⟨rfl, rfl⟩
  case round =>
    obtain ⟨rfl, rfl⟩ := hrel
    go_wp2
    go_ret
    exact ⟨rfl, rfl⟩

theorem eqOpOpS_nil (w : World) : Calls Try.prog 106 #[.slice none 0 0, .slice none 0 0] w fun e w' => e = .returned (.bool true) ∧ w = w' := by
  go_enter Try.func106, Try.ntmps106
  go_wp2
  go_loop [5] (fun i => i = .int .i64 0) (fun _ => 0)
  case atStart => rfl
  case round =>
    obtain rfl := hrel
    go_wp2
    go_ret
    exact ⟨rfl, rfl⟩
theorem markOpOpS_nil (w : World) (k : Int) : Calls Try.prog 111 #[.slice none 0 0, .int .i64 k] w fun e w' => e = .returned (.int .i64 k) ∧ w = w' := by
  go_enter Try.func111, Try.ntmps111
  go_wp2
  go_loop [1, 5] (fun a i => a = .int .i64 k ∧ i = .int .i64 0) (fun _ _ => 0)
  case atStart => exact ⟨rfl, rfl⟩
  case round =>
    obtain ⟨rfl, rfl⟩ := hrel
    go_wp2
    go_ret
    exact ⟨rfl, rfl⟩
theorem heldOpOpS_nil (w : World) (k : Int) : Calls Try.prog 116 #[.slice none 0 0, .int .i64 k] w fun e w' => e = .returned (.int .i64 k) ∧ w = w' := by
  go_enter Try.func116, Try.ntmps116
  go_wp2
  go_loop [1, 5] (fun a i => a = .int .i64 k ∧ i = .int .i64 0) (fun _ _ => 0)
  case atStart => exact ⟨rfl, rfl⟩
  case round =>
    obtain ⟨rfl, rfl⟩ := hrel
    go_wp2
    go_ret
    exact ⟨rfl, rfl⟩

theorem eqFroOutS_nil (w : World) : Calls Try.prog 107 #[.slice none 0 0, .slice none 0 0] w fun e w' => e = .returned (.bool true) ∧ w = w' := by
  go_enter Try.func107, Try.ntmps107
  go_wp2
  go_loop [5] (fun i => i = .int .i64 0) (fun _ => 0)
  case atStart => rfl
  case round =>
    obtain rfl := hrel
    go_wp2
    go_ret
    exact ⟨rfl, rfl⟩
theorem markFroOutS_nil (w : World) (k : Int) : Calls Try.prog 112 #[.slice none 0 0, .int .i64 k] w fun e w' => e = .returned (.int .i64 k) ∧ w = w' := by
  go_enter Try.func112, Try.ntmps112
  go_wp2
  go_loop [1, 5] (fun a i => a = .int .i64 k ∧ i = .int .i64 0) (fun _ _ => 0)
  case atStart => exact ⟨rfl, rfl⟩
  case round =>
    obtain ⟨rfl, rfl⟩ := hrel
    go_wp2
    go_ret
    exact ⟨rfl, rfl⟩
theorem heldFroOutS_nil (w : World) (k : Int) : Calls Try.prog 117 #[.slice none 0 0, .int .i64 k] w fun e w' => e = .returned (.int .i64 k) ∧ w = w' := by
  go_enter Try.func117, Try.ntmps117
  go_wp2
  go_loop [1, 5] (fun a i => a = .int .i64 k ∧ i = .int .i64 0) (fun _ _ => 0)
  case atStart => exact ⟨rfl, rfl⟩
  case round =>
    obtain ⟨rfl, rfl⟩ := hrel
    go_wp2
    go_ret
    exact ⟨rfl, rfl⟩

theorem eqLogDisk_zero (w : World) : Calls Try.prog 34 #[.agg #[.slice none 0 0, .int .i64 0], .agg #[.slice none 0 0, .int .i64 0]] w fun e w' => e = .returned (.bool true) ∧ Below w.heap.size w w' := by
  have HB := Lib.hid (belowTwo w (.cells #[.slice none 0 0, .int .i64 0] 54) (.cells #[.slice none 0 0, .int .i64 0] 54))
  have HX := Lib.hid ((Held.new w #[.slice none 0 0, .int .i64 0] 54).after (.cells #[.slice none 0 0, .int .i64 0] 54))
  have HY := Lib.hid (show Held ((w.alloc (.cells #[.slice none 0 0, .int .i64 0] 54)).alloc (.cells #[.slice none 0 0, .int .i64 0] 54)) (w.heap.size + 1) [.slice none 0 0, .int .i64 0] from by have h := Held.new (w.alloc (.cells #[.slice none 0 0, .int .i64 0] 54)) #[.slice none 0 0, .int .i64 0] 54; rwa [show (w.alloc (.cells #[.slice none 0 0, .int .i64 0] 54)).heap.size = w.heap.size + 1 by simp] at h)
  go_enter Try.func34, Try.ntmps34
  have x0 := HX.out.of 0 _ rfl
  have x1 := HX.out.of 1 _ rfl
  have y0 := HY.out.of 0 _ rfl
  have y1 := HY.out.of 1 _ rfl
  go_wp2_with (first | (go_at_call 96; refine (eqLogNoteS_nil _).mono ?_; rintro e w' ⟨rfl, rfl⟩) | (go_at_call 84; refine (eqFroTxS_nil _).mono ?_; rintro e w' ⟨rfl, rfl⟩) | (go_at_call 105; refine (eqMsgMsgS_nil _).mono ?_; rintro e w' ⟨rfl, rfl⟩) | (go_at_call 106; refine (eqOpOpS_nil _).mono ?_; rintro e w' ⟨rfl, rfl⟩) | (go_at_call 107; refine (eqFroOutS_nil _).mono ?_; rintro e w' ⟨rfl, rfl⟩))
  go_ret
  exact ⟨rfl, HB.out⟩

theorem markLogDisk_zero (w : World) (k : Int) : Calls Try.prog 36 #[.agg #[.slice none 0 0, .int .i64 0], .int .i64 k] w fun e w' => e = .returned (.int .i64 k) ∧ Below w.heap.size w w' := by
  have HB := Lib.hid (belowOne w (.cells #[.slice none 0 0, .int .i64 0] 54))
  have HX := Lib.hid (Held.new w #[.slice none 0 0, .int .i64 0] 54)
  go_enter Try.func36, Try.ntmps36
  have x0 := HX.out.of 0 _ rfl
  have x1 := HX.out.of 1 _ rfl
  go_wp2_with (first | (go_at_call 99; refine (markLogNoteS_nil _ _).mono ?_; rintro e w' ⟨rfl, rfl⟩) | (go_at_call 156; refine (markFroTxS_nil _ _).mono ?_; rintro e w' ⟨rfl, rfl⟩) | (go_at_call 110; refine (markMsgMsgS_nil _ _).mono ?_; rintro e w' ⟨rfl, rfl⟩) | (go_at_call 111; refine (markOpOpS_nil _ _).mono ?_; rintro e w' ⟨rfl, rfl⟩) | (go_at_call 112; refine (markFroOutS_nil _ _).mono ?_; rintro e w' ⟨rfl, rfl⟩))
  go_ret
  exact ⟨rfl, HB.out⟩

theorem heldLogDisk_zero (w : World) (k : Int) (hk : 0 ≤ k) : Calls Try.prog 38 #[.agg #[.slice none 0 0, .int .i64 0], .int .i64 k] w fun e w' => e = .returned (.int .i64 k) ∧ Below w.heap.size w w' := by
  have HB := Lib.hid (belowOne w (.cells #[.slice none 0 0, .int .i64 0] 54))
  have HX := Lib.hid (Held.new w #[.slice none 0 0, .int .i64 0] 54)
  go_enter Try.func38, Try.ntmps38
  have x0 := HX.out.of 0 _ rfl
  have x1 := HX.out.of 1 _ rfl
  have hk1 : ¬ k < 0 := by omega
  go_wp2_with (first | (go_at_call 102; refine (heldLogNoteS_nil _ _).mono ?_; rintro e w' ⟨rfl, rfl⟩) | (go_at_call 157; refine (heldFroTxS_nil _ _).mono ?_; rintro e w' ⟨rfl, rfl⟩) | (go_at_call 115; refine (heldMsgMsgS_nil _ _).mono ?_; rintro e w' ⟨rfl, rfl⟩) | (go_at_call 116; refine (heldOpOpS_nil _ _).mono ?_; rintro e w' ⟨rfl, rfl⟩) | (go_at_call 117; refine (heldFroOutS_nil _ _).mono ?_; rintro e w' ⟨rfl, rfl⟩))
  go_ret
  exact ⟨rfl, HB.out⟩

theorem eqFroState_zero (w : World) : Calls Try.prog 27 #[.agg #[.slice none 0 0, .int .i64 0, .slice none 0 0], .agg #[.slice none 0 0, .int .i64 0, .slice none 0 0]] w fun e w' => e = .returned (.bool true) ∧ Below w.heap.size w w' := by
  have HB := Lib.hid (belowTwo w (.cells #[.slice none 0 0, .int .i64 0, .slice none 0 0] 57) (.cells #[.slice none 0 0, .int .i64 0, .slice none 0 0] 57))
  have HX := Lib.hid ((Held.new w #[.slice none 0 0, .int .i64 0, .slice none 0 0] 57).after (.cells #[.slice none 0 0, .int .i64 0, .slice none 0 0] 57))
  have HY := Lib.hid (show Held ((w.alloc (.cells #[.slice none 0 0, .int .i64 0, .slice none 0 0] 57)).alloc (.cells #[.slice none 0 0, .int .i64 0, .slice none 0 0] 57)) (w.heap.size + 1) [.slice none 0 0, .int .i64 0, .slice none 0 0] from by have h := Held.new (w.alloc (.cells #[.slice none 0 0, .int .i64 0, .slice none 0 0] 57)) #[.slice none 0 0, .int .i64 0, .slice none 0 0] 57; rwa [show (w.alloc (.cells #[.slice none 0 0, .int .i64 0, .slice none 0 0] 57)).heap.size = w.heap.size + 1 by simp] at h)
  go_enter Try.func27, Try.ntmps27
  have x0 := HX.out.of 0 _ rfl
  have x1 := HX.out.of 1 _ rfl
  have x2 := HX.out.of 2 _ rfl
  have y0 := HY.out.of 0 _ rfl
  have y1 := HY.out.of 1 _ rfl
  have y2 := HY.out.of 2 _ rfl
  go_wp2_with fail
  clear x0 x1 x2 y0 y1 y2
  refine (eqLogDisk_zero _).mono ?_
  rintro e w2 ⟨rfl, hb⟩
  replace HB := Lib.hid (belowNext HB.out hb)
  replace HX := Lib.hid (HX.out.below hb HX.out.1)
  replace HY := Lib.hid (HY.out.below hb HY.out.1)
  clear hb
  have x0 := HX.out.of 0 _ rfl
  have x1 := HX.out.of 1 _ rfl
  have x2 := HX.out.of 2 _ rfl
  have y0 := HY.out.of 0 _ rfl
  have y1 := HY.out.of 1 _ rfl
  have y2 := HY.out.of 2 _ rfl
  go_wp2_with (first | (go_at_call 96; refine (eqLogNoteS_nil _).mono ?_; rintro e w' ⟨rfl, rfl⟩) | (go_at_call 84; refine (eqFroTxS_nil _).mono ?_; rintro e w' ⟨rfl, rfl⟩) | (go_at_call 105; refine (eqMsgMsgS_nil _).mono ?_; rintro e w' ⟨rfl, rfl⟩) | (go_at_call 106; refine (eqOpOpS_nil _).mono ?_; rintro e w' ⟨rfl, rfl⟩) | (go_at_call 107; refine (eqFroOutS_nil _).mono ?_; rintro e w' ⟨rfl, rfl⟩))
  go_ret
  exact ⟨rfl, HB.out⟩

theorem markFroState_zero (w : World) (k : Int) : Calls Try.prog 108 #[.agg #[.slice none 0 0, .int .i64 0, .slice none 0 0], .int .i64 k] w fun e w' => e = .returned (.int .i64 k) ∧ Below w.heap.size w w' := by
  have HB := Lib.hid (belowOne w (.cells #[.slice none 0 0, .int .i64 0, .slice none 0 0] 57))
  have HX := Lib.hid (Held.new w #[.slice none 0 0, .int .i64 0, .slice none 0 0] 57)
  go_enter Try.func108, Try.ntmps108
  have x0 := HX.out.of 0 _ rfl
  have x1 := HX.out.of 1 _ rfl
  have x2 := HX.out.of 2 _ rfl
  go_wp2_with fail
  clear x0 x1 x2
  refine (markLogDisk_zero _ k).mono ?_
  rintro e w2 ⟨rfl, hb⟩
  replace HB := Lib.hid (belowNext HB.out hb)
  replace HX := Lib.hid (HX.out.below hb HX.out.1)
  clear hb
  have x0 := HX.out.of 0 _ rfl
  have x1 := HX.out.of 1 _ rfl
  have x2 := HX.out.of 2 _ rfl
  go_wp2_with (first | (go_at_call 99; refine (markLogNoteS_nil _ _).mono ?_; rintro e w' ⟨rfl, rfl⟩) | (go_at_call 156; refine (markFroTxS_nil _ _).mono ?_; rintro e w' ⟨rfl, rfl⟩) | (go_at_call 110; refine (markMsgMsgS_nil _ _).mono ?_; rintro e w' ⟨rfl, rfl⟩) | (go_at_call 111; refine (markOpOpS_nil _ _).mono ?_; rintro e w' ⟨rfl, rfl⟩) | (go_at_call 112; refine (markFroOutS_nil _ _).mono ?_; rintro e w' ⟨rfl, rfl⟩))
  go_ret
  exact ⟨rfl, HB.out⟩

theorem heldFroState_zero (w : World) (k : Int) (hk : 0 ≤ k) : Calls Try.prog 113 #[.agg #[.slice none 0 0, .int .i64 0, .slice none 0 0], .int .i64 k] w fun e w' => e = .returned (.int .i64 k) ∧ Below w.heap.size w w' := by
  have HB := Lib.hid (belowOne w (.cells #[.slice none 0 0, .int .i64 0, .slice none 0 0] 57))
  have HX := Lib.hid (Held.new w #[.slice none 0 0, .int .i64 0, .slice none 0 0] 57)
  go_enter Try.func113, Try.ntmps113
  have x0 := HX.out.of 0 _ rfl
  have x1 := HX.out.of 1 _ rfl
  have x2 := HX.out.of 2 _ rfl
  have hk1 : ¬ k < 0 := by omega
  go_wp2_with fail
  clear x0 x1 x2
  refine (heldLogDisk_zero _ k hk).mono ?_
  rintro e w2 ⟨rfl, hb⟩
  replace HB := Lib.hid (belowNext HB.out hb)
  replace HX := Lib.hid (HX.out.below hb HX.out.1)
  clear hb
  have x0 := HX.out.of 0 _ rfl
  have x1 := HX.out.of 1 _ rfl
  have x2 := HX.out.of 2 _ rfl
  go_wp2_with (first | (go_at_call 102; refine (heldLogNoteS_nil _ _).mono ?_; rintro e w' ⟨rfl, rfl⟩) | (go_at_call 157; refine (heldFroTxS_nil _ _).mono ?_; rintro e w' ⟨rfl, rfl⟩) | (go_at_call 115; refine (heldMsgMsgS_nil _ _).mono ?_; rintro e w' ⟨rfl, rfl⟩) | (go_at_call 116; refine (heldOpOpS_nil _ _).mono ?_; rintro e w' ⟨rfl, rfl⟩) | (go_at_call 117; refine (heldFroOutS_nil _ _).mono ?_; rintro e w' ⟨rfl, rfl⟩))
  go_ret
  exact ⟨rfl, HB.out⟩

theorem madeD3 (W : World) : (Instr.makeSlice 75 (.int .i64 3) (.int .i64 3)).run Try.prog W = .ok (.slice (some ⟨W.heap.size, 0, none⟩) 3 3) (W.alloc (.cells (madeCells #[.slice none 0 0, .int .i64 0] (3 * 2)) 54)) := madeLogDisk 3 (by omega) W
theorem services_new (w : World) : Calls Try.prog 103 #[] w fun e w' => ∃ A c, e = .returned (.slice A 3 c) ∧ Below w.heap.size w w' := by
  go_enter Try.func103, Try.ntmps103
  go_wp2
  go_ret
  exact ⟨_, _, rfl, belowOne _ _⟩
theorem p7_far (w : World) (b : Nat) (b0 b1 b2 b3 b4 b5 b6 : Value) {c : Nat} (h : c ≠ b) : (put7 w b b0 b1 b2 b3 b4 b5 b6).heap[c]? = w.heap[c]? := by
  unfold put7
  rw [Below.heap_setCell _ ⟨b, 6, none⟩ _ c h, Below.heap_setCell _ ⟨b, 5, none⟩ _ c h, Below.heap_setCell _ ⟨b, 4, none⟩ _ c h, Below.heap_setCell _ ⟨b, 3, none⟩ _ c h, Below.heap_setCell _ ⟨b, 2, none⟩ _ c h, Below.heap_setCell _ ⟨b, 1, none⟩ _ c h, Below.heap_setCell _ ⟨b, 0, none⟩ _ c h]
theorem p7_size (w : World) (b : Nat) (b0 b1 b2 b3 b4 b5 b6 : Value) : (put7 w b b0 b1 b2 b3 b4 b5 b6).heap.size = w.heap.size := by unfold put7; simp [World.setCell]
/-- A new world. -/
def NewW (w : World) (e : Ending) (w' : World) : Prop := ∃ v, e = .returned (.agg #[.slice none 0 0, .int .i64 0, .slice none 0 0, v, .slice none 0 0, .slice none 0 0, .slice none 0 0]) ∧ diskSh.Own 54 w' (fun b => w.heap.size ≤ b ∧ b < w'.heap.size) v newD ∧ Below w.heap.size w w'
theorem implWldNew_any (w : World) : Calls Try.prog 40 #[] w (NewW w) := by
  go_enter Try.func40, Try.ntmps40
  go_wp2_with fail
  refine (services_new _).mono ?_
  rintro e w2 ⟨A, c, rfl, hb⟩
  have hmk := madeD3 w2
  have HO := Lib.hid (Sh.Own.made diskSh 54 w2 3 (by unfold maxLen; omega))
  have HH := Lib.hid (((Held.new w #[.slice none 0 0, .int .i64 0, .slice none 0 0, .slice none 0 0, .slice none 0 0, .slice none 0 0, .slice none 0 0] 80).below hb (Held.new w #[.slice none 0 0, .int .i64 0, .slice none 0 0, .slice none 0 0, .slice none 0 0, .slice none 0 0, .slice none 0 0] 80).1).after (.cells (madeCells #[.slice none 0 0, .int .i64 0] (3 * 2)) 54))
  have HB := Lib.hid (belowNext (belowOne w (.cells #[.slice none 0 0, .int .i64 0, .slice none 0 0, .slice none 0 0, .slice none 0 0, .slice none 0 0, .slice none 0 0] 80)) (belowNext hb (belowOne w2 (.cells (madeCells #[.slice none 0 0, .int .i64 0] (3 * 2)) 54))))
  have HZ := Lib.hid (show w.heap.size < w2.heap.size from by have h := hb.size; simp at h; omega)
  clear hb
  have x0 := HH.out.of 0 _ rfl
  have z0 := HH.out.2.1 0
  have x1 := HH.out.of 1 _ rfl
  have z1 := HH.out.2.1 1
  have x2 := HH.out.of 2 _ rfl
  have z2 := HH.out.2.1 2
  have x3 := HH.out.of 3 _ rfl
  have z3 := HH.out.2.1 3
  have x4 := HH.out.of 4 _ rfl
  have z4 := HH.out.2.1 4
  have x5 := HH.out.of 5 _ rfl
  have z5 := HH.out.2.1 5
  have x6 := HH.out.of 6 _ rfl
  have z6 := HH.out.2.1 6
  go_wp2
  have HQ := Lib.hid (HH.out.put7 (.slice none 0 0) (.int .i64 0) (.slice none 0 0) (.slice (some ⟨w2.heap.size, 0, none⟩) 3 3) (.slice none 0 0) (.slice none 0 0) (.slice none 0 0))
  obtain ⟨q0, q1, q2, q3, q4, q5, q6⟩ := HQ.out.seven
  exact bodyPost_ret (v := .agg #[.slice none 0 0, .int .i64 0, .slice none 0 0, .slice (some ⟨w2.heap.size, 0, none⟩) 3 3, .slice none 0 0, .slice none 0 0, .slice none 0 0]) (by simp [results, Try.results40, go_sem, *]) rfl
    ⟨_, rfl, (HO.out.keep (w' := put7 (w2.alloc (.cells (madeCells #[.slice none 0 0, .int .i64 0] (3 * 2)) 54)) w.heap.size (.slice none 0 0) (.int .i64 0) (.slice none 0 0) (.slice (some ⟨w2.heap.size, 0, none⟩) 3 3) (.slice none 0 0) (.slice none 0 0) (.slice none 0 0)) fun b hb _ => p7_far _ w.heap.size _ _ _ _ _ _ _ (by have := HZ.out; omega)).mono fun b hb => ⟨by have := HZ.out; omega, by have := HZ.out; have h2 := p7_size (w2.alloc (.cells (madeCells #[.slice none 0 0, .int .i64 0] (3 * 2)) 54)) w.heap.size (.slice none 0 0) (.int .i64 0) (.slice none 0 0) (.slice (some ⟨w2.heap.size, 0, none⟩) 3 3) (.slice none 0 0) (.slice none 0 0) (.slice none 0 0); rw [h2]; simp; omega⟩, belowPut7 HB.out w.heap.size (Nat.le_refl _) _ _ _ _ _ _ _⟩
theorem specWldNew_any (w : World) : Calls Try.prog 39 #[] w (NewW w) := by
  go_enter Try.func39, Try.ntmps39
  have HO := Lib.hid (Sh.Own.lit diskSh 54 (w.alloc (.cells #[.slice none 0 0, .int .i64 0, .slice none 0 0, .slice (some ⟨w.heap.size + 1, 0, none⟩) 3 3, .slice none 0 0, .slice none 0 0, .slice none 0 0] 80)) #[.slice none 0 0, .int .i64 0, .slice none 0 0, .int .i64 0, .slice none 0 0, .int .i64 0] newD (fun _ => [.slice none 0 0, .int .i64 0]) (fun _ _ => False) (fun _ => False) (by unfold maxLen; simp [newD]) rfl
    (fun j x hx => ⟨by
      have hj : j = 0 ∨ j = 1 ∨ j = 2 := by
        have := (List.getElem?_eq_some_iff.1 hx).1
        simp [newD] at this; omega
      have : x = ⟨[], 0⟩ := by rcases hj with rfl | rfl | rfl <;> simpa [newD] using hx.symm
      subst this
      exact disk_own.2 ⟨_, rfl, Sh.Own.nil _ _⟩, fun _ h => h.elim⟩) (fun _ _ _ _ _ h => h.elim))
  have HH := Lib.hid ((Held.new w #[.slice none 0 0, .int .i64 0, .slice none 0 0, .slice (some ⟨w.heap.size + 1, 0, none⟩) 3 3, .slice none 0 0, .slice none 0 0, .slice none 0 0] 80).after (.cells #[.slice none 0 0, .int .i64 0, .slice none 0 0, .int .i64 0, .slice none 0 0, .int .i64 0] 54))
  go_wp2
  obtain ⟨q0, q1, q2, q3, q4, q5, q6⟩ := HH.out.seven
  have hsz : (w.alloc (.cells #[.slice none 0 0, .int .i64 0, .slice none 0 0, .slice (some ⟨w.heap.size + 1, 0, none⟩) 3 3, .slice none 0 0, .slice none 0 0, .slice none 0 0] 80)).heap.size = w.heap.size + 1 := by simp
  have ho := HO.out
  rw [hsz] at ho
  exact bodyPost_ret (v := .agg #[.slice none 0 0, .int .i64 0, .slice none 0 0, .slice (some ⟨w.heap.size + 1, 0, none⟩) 3 3, .slice none 0 0, .slice none 0 0, .slice none 0 0]) (by simp [results, Try.results39, go_sem, *]) rfl
    ⟨_, rfl, ho.mono fun b hb => ⟨by rcases hb with hb | hb; exact hb.elim; omega, by rcases hb with hb | hb; exact hb.elim; simp; omega⟩, belowTwo w _ _⟩

theorem eqWldWorld_new (w : World) (u v : Value) (hu : diskSh.Row w w.heap.size u newD) (hv : diskSh.Row w w.heap.size v newD) :
    Calls Try.prog 41 #[.agg #[.slice none 0 0, .int .i64 0, .slice none 0 0, u, .slice none 0 0, .slice none 0 0, .slice none 0 0], .agg #[.slice none 0 0, .int .i64 0, .slice none 0 0, v, .slice none 0 0, .slice none 0 0, .slice none 0 0]] w fun e w' => e = .returned (.bool true) ∧ Below w.heap.size w w' := by
  obtain ⟨A1, c1, rfl, -, -⟩ := hu.form
  obtain ⟨A2, c2, rfl, -, -⟩ := hv.form
  have h3 : newD.length = 3 := rfl
  rw [h3] at hu hv ⊢
  obtain ⟨u, hue⟩ : ∃ u, u = Value.slice A1 3 c1 := ⟨_, rfl⟩
  obtain ⟨v, hve⟩ : ∃ v, v = Value.slice A2 3 c2 := ⟨_, rfl⟩
  rw [← hue] at hu ⊢
  rw [← hve] at hv ⊢
  have HUe := Lib.hid hue
  have HVe := Lib.hid hve
  clear hue hve
  have HB := Lib.hid (belowTwo w (.cells #[.slice none 0 0, .int .i64 0, .slice none 0 0, u, .slice none 0 0, .slice none 0 0, .slice none 0 0] 80) (.cells #[.slice none 0 0, .int .i64 0, .slice none 0 0, v, .slice none 0 0, .slice none 0 0, .slice none 0 0] 80))
  have HX := Lib.hid ((Held.new w #[.slice none 0 0, .int .i64 0, .slice none 0 0, u, .slice none 0 0, .slice none 0 0, .slice none 0 0] 80).after (.cells #[.slice none 0 0, .int .i64 0, .slice none 0 0, v, .slice none 0 0, .slice none 0 0, .slice none 0 0] 80))
  have HY := Lib.hid (show Held ((w.alloc (.cells #[.slice none 0 0, .int .i64 0, .slice none 0 0, u, .slice none 0 0, .slice none 0 0, .slice none 0 0] 80)).alloc (.cells #[.slice none 0 0, .int .i64 0, .slice none 0 0, v, .slice none 0 0, .slice none 0 0, .slice none 0 0] 80)) (w.heap.size + 1) [.slice none 0 0, .int .i64 0, .slice none 0 0, v, .slice none 0 0, .slice none 0 0, .slice none 0 0] from by have h := Held.new (w.alloc (.cells #[.slice none 0 0, .int .i64 0, .slice none 0 0, u, .slice none 0 0, .slice none 0 0, .slice none 0 0] 80)) #[.slice none 0 0, .int .i64 0, .slice none 0 0, v, .slice none 0 0, .slice none 0 0, .slice none 0 0] 80; rwa [show (w.alloc (.cells #[.slice none 0 0, .int .i64 0, .slice none 0 0, u, .slice none 0 0, .slice none 0 0, .slice none 0 0] 80)).heap.size = w.heap.size + 1 by simp] at h)
  have HU := Lib.hid fun W (h : Below w.heap.size w W) => (hu.below h).more h.size
  have HV := Lib.hid fun W (h : Below w.heap.size w W) => (hv.below h).more h.size
  clear hu hv
  go_enter Try.func41, Try.ntmps41
  obtain ⟨x0, x1, x2, x3, x4, x5, x6⟩ := HX.out.seven
  obtain ⟨y0, y1, y2, y3, y4, y5, y6⟩ := HY.out.seven
  go_wp2_with fail
  clear x0 x1 x2 x3 x4 x5 x6 y0 y1 y2 y3 y4 y5 y6
  refine (eqFroState_zero _).mono ?_
  rintro e w2 ⟨rfl, hb⟩
  replace HB := Lib.hid (belowNext HB.out hb)
  replace HX := Lib.hid (HX.out.below hb HX.out.1)
  replace HY := Lib.hid (HY.out.below hb HY.out.1)
  clear hb
  obtain ⟨x0, x1, x2, x3, x4, x5, x6⟩ := HX.out.seven
  obtain ⟨y0, y1, y2, y3, y4, y5, y6⟩ := HY.out.seven
  go_wp2_with fail
  clear x0 x1 x2 x3 x4 x5 x6 y0 y1 y2 y3 y4 y5 y6
  refine (eqLogDiskS_same _ _ _ newD (HU.out _ HB.out) (HV.out _ HB.out)).mono ?_
  rintro e w3 ⟨rfl, hb⟩
  replace HB := Lib.hid (belowNext HB.out hb)
  replace HX := Lib.hid (HX.out.below hb HX.out.1)
  replace HY := Lib.hid (HY.out.below hb HY.out.1)
  clear hb
  obtain ⟨x0, x1, x2, x3, x4, x5, x6⟩ := HX.out.seven
  obtain ⟨y0, y1, y2, y3, y4, y5, y6⟩ := HY.out.seven
  go_wp2_with (first | (go_at_call 96; refine (eqLogNoteS_nil _).mono ?_; rintro e w' ⟨rfl, rfl⟩) | (go_at_call 84; refine (eqFroTxS_nil _).mono ?_; rintro e w' ⟨rfl, rfl⟩) | (go_at_call 105; refine (eqMsgMsgS_nil _).mono ?_; rintro e w' ⟨rfl, rfl⟩) | (go_at_call 106; refine (eqOpOpS_nil _).mono ?_; rintro e w' ⟨rfl, rfl⟩) | (go_at_call 107; refine (eqFroOutS_nil _).mono ?_; rintro e w' ⟨rfl, rfl⟩))
  go_ret
  exact ⟨rfl, HB.out⟩
theorem markWldWorld_new (w : World) (S : Nat → Prop) (v : Value) (hv : diskSh.Own 54 w S v newD) (hS : ¬ S w.heap.size) :
    Calls Try.prog 42 #[.agg #[.slice none 0 0, .int .i64 0, .slice none 0 0, v, .slice none 0 0, .slice none 0 0, .slice none 0 0], .int .i64 1] w fun e w' => ∃ ys : List Disk, e = .returned (.int .i64 4) ∧ ys.length = newD.length ∧ cntL diskSh.cnt ys = cntL diskSh.cnt newD ∧ mkdL diskSh.cnt diskSh.mkd 1 ys ∧ diskSh.Own 54 w' S v ys ∧ Outs S w w' := by
  obtain ⟨A2, c2, hve, -, -⟩ := hv.row.form
  have h3 : newD.length = 3 := rfl
  have HVe := Lib.hid hve
  clear hve
  have HB := Lib.hid (belowOne w (.cells #[.slice none 0 0, .int .i64 0, .slice none 0 0, v, .slice none 0 0, .slice none 0 0, .slice none 0 0] 80))
  have HX := Lib.hid (Held.new w #[.slice none 0 0, .int .i64 0, .slice none 0 0, v, .slice none 0 0, .slice none 0 0, .slice none 0 0] 80)
  have HO := Lib.hid (hv.below HB.out)
  have HS := Lib.hid hS
  clear hv hS h3
  go_enter Try.func42, Try.ntmps42
  obtain ⟨x0, x1, x2, x3, x4, x5, x6⟩ := HX.out.seven
  go_wp2_with fail
  clear x0 x1 x2 x3 x4 x5 x6
  refine (markFroState_zero _ 1).mono ?_
  rintro e w2 ⟨rfl, hb⟩
  replace HB := Lib.hid (belowNext HB.out hb)
  replace HX := Lib.hid (HX.out.below hb HX.out.1)
  replace HO := Lib.hid (HO.out.below hb)
  clear hb
  obtain ⟨x0, x1, x2, x3, x4, x5, x6⟩ := HX.out.seven
  go_wp2_with fail
  clear x0 x1 x2 x3 x4 x5 x6
  refine (markLogDiskS_sh _ S _ newD HO.out 1 (by rw [newD_wt]; omega) (by omega) (by rw [newD_wt]; omega)).mono ?_
  rintro e w3 ⟨ys, rfl, hyl, hyc, hym, hyo, hyt⟩
  rw [newD_cnt]
  have HT := Lib.hid ((Outs.of_below (S := S) HB.out).trans hyt)
  replace HX := Lib.hid (HX.out.outs hyt HS.out)
  have HY := Lib.hid (And.intro hyl (And.intro hyc (And.intro hym hyo)))
  clear hyl hyc hym hyo hyt HB HO
  obtain ⟨x0, x1, x2, x3, x4, x5, x6⟩ := HX.out.seven
  go_wp2_with (first | (go_at_call 99; refine (markLogNoteS_nil _ _).mono ?_; rintro e w' ⟨rfl, rfl⟩) | (go_at_call 156; refine (markFroTxS_nil _ _).mono ?_; rintro e w' ⟨rfl, rfl⟩) | (go_at_call 110; refine (markMsgMsgS_nil _ _).mono ?_; rintro e w' ⟨rfl, rfl⟩) | (go_at_call 111; refine (markOpOpS_nil _ _).mono ?_; rintro e w' ⟨rfl, rfl⟩) | (go_at_call 112; refine (markFroOutS_nil _ _).mono ?_; rintro e w' ⟨rfl, rfl⟩))
  go_ret
  exact ⟨ys, rfl, HY.out.1, HY.out.2.1, HY.out.2.2.1, HY.out.2.2.2, HT.out⟩
theorem heldWldWorld_new (w : World) (v : Value) (ys : List Disk) (hv : diskSh.Row w w.heap.size v ys) (hl : ys.length = newD.length) (hc : cntL diskSh.cnt ys = cntL diskSh.cnt newD) (hm : mkdL diskSh.cnt diskSh.mkd 1 ys) :
    Calls Try.prog 43 #[.agg #[.slice none 0 0, .int .i64 0, .slice none 0 0, v, .slice none 0 0, .slice none 0 0, .slice none 0 0], .int .i64 1] w fun e w' => e = .returned (.int .i64 4) ∧ Below w.heap.size w w' := by
  have HW := Lib.hid (newD_marked hl hc)
  have HM := Lib.hid hm
  have HC := Lib.hid hc
  have HB := Lib.hid (belowOne w (.cells #[.slice none 0 0, .int .i64 0, .slice none 0 0, v, .slice none 0 0, .slice none 0 0, .slice none 0 0] 80))
  have HX := Lib.hid (Held.new w #[.slice none 0 0, .int .i64 0, .slice none 0 0, v, .slice none 0 0, .slice none 0 0, .slice none 0 0] 80)
  have HV := Lib.hid fun W (h : Below w.heap.size w W) => (hv.below h).more h.size
  clear hv hl hc hm
  go_enter Try.func43, Try.ntmps43
  obtain ⟨x0, x1, x2, x3, x4, x5, x6⟩ := HX.out.seven
  go_wp2_with fail
  clear x0 x1 x2 x3 x4 x5 x6
  refine (heldFroState_zero _ 1 (by omega)).mono ?_
  rintro e w2 ⟨rfl, hb⟩
  replace HB := Lib.hid (belowNext HB.out hb)
  replace HX := Lib.hid (HX.out.below hb HX.out.1)
  clear hb
  obtain ⟨x0, x1, x2, x3, x4, x5, x6⟩ := HX.out.seven
  go_wp2_with fail
  clear x0 x1 x2 x3 x4 x5 x6
  refine (heldLogDiskS_sh _ _ ys (HV.out _ HB.out) 1 (by rw [HW.out]; omega) (by omega) (by rw [HW.out]; omega) HM.out).mono ?_
  rintro e w3 ⟨rfl, hb⟩
  rw [HC.out, newD_cnt]
  replace HB := Lib.hid (belowNext HB.out hb)
  replace HX := Lib.hid (HX.out.below hb HX.out.1)
  clear hb
  obtain ⟨x0, x1, x2, x3, x4, x5, x6⟩ := HX.out.seven
  go_wp2_with (first | (go_at_call 102; refine (heldLogNoteS_nil _ _).mono ?_; rintro e w' ⟨rfl, rfl⟩) | (go_at_call 157; refine (heldFroTxS_nil _ _).mono ?_; rintro e w' ⟨rfl, rfl⟩) | (go_at_call 115; refine (heldMsgMsgS_nil _ _).mono ?_; rintro e w' ⟨rfl, rfl⟩) | (go_at_call 116; refine (heldOpOpS_nil _ _).mono ?_; rintro e w' ⟨rfl, rfl⟩) | (go_at_call 117; refine (heldFroOutS_nil _ _).mono ?_; rintro e w' ⟨rfl, rfl⟩))
  go_ret
  exact ⟨rfl, HB.out⟩

set_option maxHeartbeats 2000000 in
theorem exWldNew_any (w : World) : Calls Try.prog 7 #[] w fun e w' => e = .returned (.bool true) ∧ Below w.heap.size w w' := by
  go_enter Try.func7, Try.ntmps7
  go_wp2_with fail
  refine (specWldNew_any _).mono ?_
  rintro e w1 ⟨u1, rfl, ho1, hb1⟩
  obtain ⟨A1, c1, hf, -, -⟩ := ho1.row.form
  have hf' : u1 = .slice A1 3 c1 := hf
  subst hf'
  clear hf
  have HX1 := Lib.hid (Held.new w1 #[.slice none 0 0, .int .i64 0, .slice none 0 0, .slice A1 3 c1, .slice none 0 0, .slice none 0 0, .slice none 0 0] 80)
  have HO1 := Lib.hid (ho1.below (belowOne w1 (.cells #[.slice none 0 0, .int .i64 0, .slice none 0 0, .slice A1 3 c1, .slice none 0 0, .slice none 0 0, .slice none 0 0] 80)))
  have HB := Lib.hid (belowNext hb1 (belowOne w1 (.cells #[.slice none 0 0, .int .i64 0, .slice none 0 0, .slice A1 3 c1, .slice none 0 0, .slice none 0 0, .slice none 0 0] 80)))
  have hz1 : w.heap.size ≤ w1.heap.size := hb1.size
  clear ho1 hb1
  go_wp2_with fail
  refine (implWldNew_any _).mono ?_
  rintro e w2 ⟨u2, rfl, ho2, hb2⟩
  obtain ⟨A2, c2, hf, -, -⟩ := ho2.row.form
  have hf' : u2 = .slice A2 3 c2 := hf
  subst hf'
  clear hf
  have hS : (w1.alloc (.cells #[.slice none 0 0, .int .i64 0, .slice none 0 0, .slice A1 3 c1, .slice none 0 0, .slice none 0 0, .slice none 0 0] 80)).heap.size = w1.heap.size + 1 := by simp
  have hb3 := belowNext hb2 (belowOne w2 (.cells #[.slice none 0 0, .int .i64 0, .slice none 0 0, .slice A2 3 c2, .slice none 0 0, .slice none 0 0, .slice none 0 0] 80))
  replace HX1 := Lib.hid (HX1.out.below hb3 HX1.out.1)
  replace HO1 := Lib.hid (HO1.out.below hb3)
  replace HB := Lib.hid (belowNext HB.out hb3)
  have HX2 := Lib.hid (Held.new w2 #[.slice none 0 0, .int .i64 0, .slice none 0 0, .slice A2 3 c2, .slice none 0 0, .slice none 0 0, .slice none 0 0] 80)
  have HO2 := Lib.hid (ho2.below (belowOne w2 (.cells #[.slice none 0 0, .int .i64 0, .slice none 0 0, .slice A2 3 c2, .slice none 0 0, .slice none 0 0, .slice none 0 0] 80)))
  have hz2 : w1.heap.size + 1 ≤ w2.heap.size := by have h := hb2.size; rw [hS] at h; exact h
  rw [hS] at HO2
  clear ho2 hb2 hb3 hS
  obtain ⟨x0, x1, x2, x3, x4, x5, x6⟩ := HX1.out.seven
  obtain ⟨y0, y1, y2, y3, y4, y5, y6⟩ := HX2.out.seven
  go_wp2_with fail
  clear x0 x1 x2 x3 x4 x5 x6 y0 y1 y2 y3 y4 y5 y6
  refine (eqWldWorld_new _ _ _ HO2.out.row HO1.out.row).mono ?_
  rintro e w3 ⟨rfl, hb⟩
  replace HX1 := Lib.hid (HX1.out.below hb HX1.out.1)
  replace HX2 := Lib.hid (HX2.out.below hb HX2.out.1)
  replace HO1 := Lib.hid (HO1.out.below hb)
  replace HB := Lib.hid (belowNext HB.out hb)
  replace HO2 := Lib.hid (HO2.out.below hb)
  have hz3 : w2.heap.size < w3.heap.size := by have h := hb.size; simp at h; omega
  clear hb
  obtain ⟨y0, y1, y2, y3, y4, y5, y6⟩ := HX2.out.seven
  go_wp2_with fail
  clear y0 y1 y2 y3 y4 y5 y6
  refine (markWldWorld_new _ _ _ HO2.out (by omega)).mono ?_
  rintro e w4 ⟨ys, rfl, hyl, hyc, hym, hyo, hyt⟩
  replace HX1 := Lib.hid (HX1.out.outs hyt (by omega))
  replace HX2 := Lib.hid (HX2.out.outs hyt (by omega))
  replace HO1 := Lib.hid (HO1.out.keep (w' := w4) fun b hb hlt => hyt.block b hlt (by omega))
  replace HB := Lib.hid (show Below w.heap.size w w4 from HB.out.trans (hyt.below HB.out.size fun i hi => by have h1 := hi.1; omega))
  replace HO2 := Lib.hid hyo
  have HY := Lib.hid (And.intro hyl (And.intro hyc hym))
  clear hyl hyc hym hyo hyt hz1 hz2 hz3
  obtain ⟨y0, y1, y2, y3, y4, y5, y6⟩ := HX2.out.seven
  go_wp2_with fail
  clear y0 y1 y2 y3 y4 y5 y6
  refine (heldWldWorld_new _ _ ys HO2.out.row HY.out.1 HY.out.2.1 HY.out.2.2).mono ?_
  rintro e w5 ⟨rfl, hb⟩
  replace HX1 := Lib.hid (HX1.out.below hb HX1.out.1)
  replace HX2 := Lib.hid (HX2.out.below hb HX2.out.1)
  replace HO1 := Lib.hid (HO1.out.below hb)
  replace HO2 := Lib.hid (HO2.out.below hb)
  replace HB := Lib.hid (belowNext HB.out hb)
  clear hb
  go_wp2_with fail
  refine (implWldNew_any _).mono ?_
  rintro e w6 ⟨u3, rfl, ho3, hb2⟩
  obtain ⟨A3, c3, hf, -, -⟩ := ho3.row.form
  have hf' : u3 = .slice A3 3 c3 := hf
  subst hf'
  clear hf
  have hb3 := belowNext hb2 (belowOne w6 (.cells #[.slice none 0 0, .int .i64 0, .slice none 0 0, .slice A3 3 c3, .slice none 0 0, .slice none 0 0, .slice none 0 0] 80))
  replace HX1 := Lib.hid (HX1.out.below hb3 HX1.out.1)
  replace HX2 := Lib.hid (HX2.out.below hb3 HX2.out.1)
  replace HO1 := Lib.hid (HO1.out.below hb3)
  replace HO2 := Lib.hid (HO2.out.below hb3)
  replace HB := Lib.hid (belowNext HB.out hb3)
  have HX3 := Lib.hid (Held.new w6 #[.slice none 0 0, .int .i64 0, .slice none 0 0, .slice A3 3 c3, .slice none 0 0, .slice none 0 0, .slice none 0 0] 80)
  have HO3 := Lib.hid (ho3.below (belowOne w6 (.cells #[.slice none 0 0, .int .i64 0, .slice none 0 0, .slice A3 3 c3, .slice none 0 0, .slice none 0 0, .slice none 0 0] 80)))
  clear ho3 hb2 hb3
  obtain ⟨x0, x1, x2, x3, x4, x5, x6⟩ := HX1.out.seven
  obtain ⟨y0, y1, y2, y3, y4, y5, y6⟩ := HX3.out.seven
  go_wp2_with fail
  clear x0 x1 x2 x3 x4 x5 x6 y0 y1 y2 y3 y4 y5 y6
  refine (eqWldWorld_new _ _ _ HO3.out.row HO1.out.row).mono ?_
  rintro e w7 ⟨rfl, hb⟩
  replace HX2 := Lib.hid (HX2.out.below hb HX2.out.1)
  replace HO2 := Lib.hid (HO2.out.below hb)
  replace HB := Lib.hid (belowNext HB.out hb)
  clear hb HX1 HX3 HO1 HO3
  obtain ⟨y0, y1, y2, y3, y4, y5, y6⟩ := HX2.out.seven
  go_wp2_with fail
  clear y0 y1 y2 y3 y4 y5 y6
  refine (heldWldWorld_new _ _ ys HO2.out.row HY.out.1 HY.out.2.1 HY.out.2.2).mono ?_
  rintro e w8 ⟨rfl, hb⟩
  replace HB := Lib.hid (belowNext HB.out hb)
  clear hb
  go_wp2
  go_ret
  exact ⟨rfl, HB.out⟩

end Go.Proofs.Ytecdibpiojgppaa
