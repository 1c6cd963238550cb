/- What OpOk answers, of the program and of the model: the same bool of everything that is done. By opgen.py. -/
import Derived.Test.YtecdibpiojgppaaXShapesLog
import Derived.Test.YtecdibpiojgppaaXMem
import Derived.Deep.RegionHeld3
namespace Go.Proofs.Ytecdibpiojgppaa
open Go.RowKit

/-- What is done: its kind and its numbers. -/
structure Op where
  kind : Int
  who : Int
  inn : Int
  code : Int
  sec : Int
  fam : Int
  gen : Int
deriving DecidableEq
/-- The numbers that its kind has not are noughts. -/
def opK (o : Op) : Bool :=
  if (o.kind == 1 || o.kind == 5) = true then (o.code == 0 && (o.sec == 0 && (o.fam == 0 && o.gen == 0)))
  else if (o.kind == 2) = true then (o.fam == 0 && o.gen == 0)
  else if (o.kind == 3) = true then (o.who == 0 && (o.inn == 0 && o.gen == 0))
  else if (o.kind == 4) = true then (o.who == 0 && (o.inn == 0 && (o.code == 0 && o.sec == 0)))
  else false
def opB (o : Op) : Bool :=
  inB o.who 0 9 && (inB o.inn 0 9 && (inB o.code 0 9 && (inB o.sec 0 99 && (inB o.fam 0 9 && (inB o.gen 0 99 && opK o)))))
abbrev opV (o : Op) : Value := .agg #[.int .i64 o.kind, .int .i64 o.who, .int .i64 o.inn, .int .i64 o.code, .int .i64 o.sec, .int .i64 o.fam, .int .i64 o.gen]

set_option maxRecDepth 100000 in
set_option maxHeartbeats 2000000 in
theorem specOpOk_any (w : World) (o : Op) :
    Calls Try.prog 77 #[.agg #[.int .i64 o.kind, .int .i64 o.who, .int .i64 o.inn, .int .i64 o.code, .int .i64 o.sec, .int .i64 o.fam, .int .i64 o.gen]] w fun e w' => e = .returned (.bool (opB o)) ∧ Below w.heap.size w w' := by
  rcases h_who : inB o.who 0 9
  · go_enter Try.func77, Try.ntmps77
    go_wp2_with (go_at_call 68; refine (l1In_any _ _ _ _).mono ?_; rintro e w' ⟨rfl, rfl⟩)
    go_ret
    exact ⟨ret_bool (by simp only [opB, opK, *] <;> rfl), belowOne _ _⟩
  rcases h_inn : inB o.inn 0 9
  · go_enter Try.func77, Try.ntmps77
    go_wp2_with (go_at_call 68; refine (l1In_any _ _ _ _).mono ?_; rintro e w' ⟨rfl, rfl⟩)
    go_ret
    exact ⟨ret_bool (by simp only [opB, opK, *] <;> rfl), belowOne _ _⟩
  rcases h_code : inB o.code 0 9
  · go_enter Try.func77, Try.ntmps77
    go_wp2_with (go_at_call 68; refine (l1In_any _ _ _ _).mono ?_; rintro e w' ⟨rfl, rfl⟩)
    go_ret
    exact ⟨ret_bool (by simp only [opB, opK, *] <;> rfl), belowOne _ _⟩
  rcases h_sec : inB o.sec 0 99
  · go_enter Try.func77, Try.ntmps77
    go_wp2_with (go_at_call 68; refine (l1In_any _ _ _ _).mono ?_; rintro e w' ⟨rfl, rfl⟩)
    go_ret
    exact ⟨ret_bool (by simp only [opB, opK, *] <;> rfl), belowOne _ _⟩
  rcases h_fam : inB o.fam 0 9
  · go_enter Try.func77, Try.ntmps77
    go_wp2_with (go_at_call 68; refine (l1In_any _ _ _ _).mono ?_; rintro e w' ⟨rfl, rfl⟩)
    go_ret
    exact ⟨ret_bool (by simp only [opB, opK, *] <;> rfl), belowOne _ _⟩
  rcases h_gen : inB o.gen 0 99
  · go_enter Try.func77, Try.ntmps77
    go_wp2_with (go_at_call 68; refine (l1In_any _ _ _ _).mono ?_; rintro e w' ⟨rfl, rfl⟩)
    go_ret
    exact ⟨ret_bool (by simp only [opB, opK, *] <;> rfl), belowOne _ _⟩
  rcases k1 : (o.kind == 1)
  rotate_left
  ·
    rcases z_code : (o.code == 0)
    · go_enter Try.func77, Try.ntmps77
      go_wp2_with (go_at_call 68; refine (l1In_any _ _ _ _).mono ?_; rintro e w' ⟨rfl, rfl⟩)
      go_ret
      exact ⟨ret_bool (by simp only [opB, opK, *] <;> rfl), belowOne _ _⟩
    rcases z_sec : (o.sec == 0)
    · go_enter Try.func77, Try.ntmps77
      go_wp2_with (go_at_call 68; refine (l1In_any _ _ _ _).mono ?_; rintro e w' ⟨rfl, rfl⟩)
      go_ret
      exact ⟨ret_bool (by simp only [opB, opK, *] <;> rfl), belowOne _ _⟩
    rcases z_fam : (o.fam == 0)
    · go_enter Try.func77, Try.ntmps77
      go_wp2_with (go_at_call 68; refine (l1In_any _ _ _ _).mono ?_; rintro e w' ⟨rfl, rfl⟩)
      go_ret
      exact ⟨ret_bool (by simp only [opB, opK, *] <;> rfl), belowOne _ _⟩
    rcases z_gen : (o.gen == 0)
    · go_enter Try.func77, Try.ntmps77
      go_wp2_with (go_at_call 68; refine (l1In_any _ _ _ _).mono ?_; rintro e w' ⟨rfl, rfl⟩)
      go_ret
      exact ⟨ret_bool (by simp only [opB, opK, *] <;> rfl), belowOne _ _⟩
    go_enter Try.func77, Try.ntmps77
    go_wp2_with (go_at_call 68; refine (l1In_any _ _ _ _).mono ?_; rintro e w' ⟨rfl, rfl⟩)
    go_ret
    exact ⟨ret_bool (by simp only [opB, opK, *] <;> rfl), belowOne _ _⟩
  rcases k5 : (o.kind == 5)
  rotate_left
  ·
    rcases z_code : (o.code == 0)
    · go_enter Try.func77, Try.ntmps77
      go_wp2_with (go_at_call 68; refine (l1In_any _ _ _ _).mono ?_; rintro e w' ⟨rfl, rfl⟩)
      go_ret
      exact ⟨ret_bool (by simp only [opB, opK, *] <;> rfl), belowOne _ _⟩
    rcases z_sec : (o.sec == 0)
    · go_enter Try.func77, Try.ntmps77
      go_wp2_with (go_at_call 68; refine (l1In_any _ _ _ _).mono ?_; rintro e w' ⟨rfl, rfl⟩)
      go_ret
      exact ⟨ret_bool (by simp only [opB, opK, *] <;> rfl), belowOne _ _⟩
    rcases z_fam : (o.fam == 0)
    · go_enter Try.func77, Try.ntmps77
      go_wp2_with (go_at_call 68; refine (l1In_any _ _ _ _).mono ?_; rintro e w' ⟨rfl, rfl⟩)
      go_ret
      exact ⟨ret_bool (by simp only [opB, opK, *] <;> rfl), belowOne _ _⟩
    rcases z_gen : (o.gen == 0)
    · go_enter Try.func77, Try.ntmps77
      go_wp2_with (go_at_call 68; refine (l1In_any _ _ _ _).mono ?_; rintro e w' ⟨rfl, rfl⟩)
      go_ret
      exact ⟨ret_bool (by simp only [opB, opK, *] <;> rfl), belowOne _ _⟩
    go_enter Try.func77, Try.ntmps77
    go_wp2_with (go_at_call 68; refine (l1In_any _ _ _ _).mono ?_; rintro e w' ⟨rfl, rfl⟩)
    go_ret
    exact ⟨ret_bool (by simp only [opB, opK, *] <;> rfl), belowOne _ _⟩
  rcases k2 : (o.kind == 2)
  rotate_left
  ·
    rcases z_fam : (o.fam == 0)
    · go_enter Try.func77, Try.ntmps77
      go_wp2_with (go_at_call 68; refine (l1In_any _ _ _ _).mono ?_; rintro e w' ⟨rfl, rfl⟩)
      go_ret
      exact ⟨ret_bool (by simp only [opB, opK, *] <;> rfl), belowOne _ _⟩
    rcases z_gen : (o.gen == 0)
    · go_enter Try.func77, Try.ntmps77
      go_wp2_with (go_at_call 68; refine (l1In_any _ _ _ _).mono ?_; rintro e w' ⟨rfl, rfl⟩)
      go_ret
      exact ⟨ret_bool (by simp only [opB, opK, *] <;> rfl), belowOne _ _⟩
    go_enter Try.func77, Try.ntmps77
    go_wp2_with (go_at_call 68; refine (l1In_any _ _ _ _).mono ?_; rintro e w' ⟨rfl, rfl⟩)
    go_ret
    exact ⟨ret_bool (by simp only [opB, opK, *] <;> rfl), belowOne _ _⟩
  rcases k3 : (o.kind == 3)
  rotate_left
  ·
    rcases z_who : (o.who == 0)
    · go_enter Try.func77, Try.ntmps77
      go_wp2_with (go_at_call 68; refine (l1In_any _ _ _ _).mono ?_; rintro e w' ⟨rfl, rfl⟩)
      go_ret
      exact ⟨ret_bool (by simp only [opB, opK, *] <;> rfl), belowOne _ _⟩
    rcases z_inn : (o.inn == 0)
    · go_enter Try.func77, Try.ntmps77
      go_wp2_with (go_at_call 68; refine (l1In_any _ _ _ _).mono ?_; rintro e w' ⟨rfl, rfl⟩)
      go_ret
      exact ⟨ret_bool (by simp only [opB, opK, *] <;> rfl), belowOne _ _⟩
    rcases z_gen : (o.gen == 0)
    · go_enter Try.func77, Try.ntmps77
      go_wp2_with (go_at_call 68; refine (l1In_any _ _ _ _).mono ?_; rintro e w' ⟨rfl, rfl⟩)
      go_ret
      exact ⟨ret_bool (by simp only [opB, opK, *] <;> rfl), belowOne _ _⟩
    go_enter Try.func77, Try.ntmps77
    go_wp2_with (go_at_call 68; refine (l1In_any _ _ _ _).mono ?_; rintro e w' ⟨rfl, rfl⟩)
    go_ret
    exact ⟨ret_bool (by simp only [opB, opK, *] <;> rfl), belowOne _ _⟩
  rcases k4 : (o.kind == 4)
  rotate_left
  ·
    rcases z_who : (o.who == 0)
    · go_enter Try.func77, Try.ntmps77
      go_wp2_with (go_at_call 68; refine (l1In_any _ _ _ _).mono ?_; rintro e w' ⟨rfl, rfl⟩)
      go_ret
      exact ⟨ret_bool (by simp only [opB, opK, *] <;> rfl), belowOne _ _⟩
    rcases z_inn : (o.inn == 0)
    · go_enter Try.func77, Try.ntmps77
      go_wp2_with (go_at_call 68; refine (l1In_any _ _ _ _).mono ?_; rintro e w' ⟨rfl, rfl⟩)
      go_ret
      exact ⟨ret_bool (by simp only [opB, opK, *] <;> rfl), belowOne _ _⟩
    rcases z_code : (o.code == 0)
    · go_enter Try.func77, Try.ntmps77
      go_wp2_with (go_at_call 68; refine (l1In_any _ _ _ _).mono ?_; rintro e w' ⟨rfl, rfl⟩)
      go_ret
      exact ⟨ret_bool (by simp only [opB, opK, *] <;> rfl), belowOne _ _⟩
    rcases z_sec : (o.sec == 0)
    · go_enter Try.func77, Try.ntmps77
      go_wp2_with (go_at_call 68; refine (l1In_any _ _ _ _).mono ?_; rintro e w' ⟨rfl, rfl⟩)
      go_ret
      exact ⟨ret_bool (by simp only [opB, opK, *] <;> rfl), belowOne _ _⟩
    go_enter Try.func77, Try.ntmps77
    go_wp2_with (go_at_call 68; refine (l1In_any _ _ _ _).mono ?_; rintro e w' ⟨rfl, rfl⟩)
    go_ret
    exact ⟨ret_bool (by simp only [opB, opK, *] <;> rfl), belowOne _ _⟩
  go_enter Try.func77, Try.ntmps77
  go_wp2_with (go_at_call 68; refine (l1In_any _ _ _ _).mono ?_; rintro e w' ⟨rfl, rfl⟩)
  go_ret
  exact ⟨ret_bool (by simp only [opB, opK, *] <;> rfl), belowOne _ _⟩

end Go.Proofs.Ytecdibpiojgppaa
