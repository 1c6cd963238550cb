/- What OpOk of the program answers: the same as the model's. By opgen2.py. -/
import Derived.Test.YtecdibpiojgppaaXOpOkS
namespace Go.Proofs.Ytecdibpiojgppaa
open Go.RowKit

/-- The numbers that its kind has; whether that is one. -/
def ownO (o : Op) : Op :=
  if (o.kind == 1 || o.kind == 5) = true then ⟨o.kind, o.who, o.inn, 0, 0, 0, 0⟩ else if (o.kind == 2) = true then ⟨o.kind, o.who, o.inn, o.code, o.sec, 0, 0⟩ else if (o.kind == 3) = true then ⟨o.kind, 0, 0, o.code, o.sec, o.fam, 0⟩ else if (o.kind == 4) = true then ⟨o.kind, 0, 0, 0, 0, o.fam, o.gen⟩ else ⟨0, 0, 0, 0, 0, 0, 0⟩
def ownK (o : Op) : Bool := o.kind == 1 || (o.kind == 5 || (o.kind == 2 || (o.kind == 3 || o.kind == 4)))
def Owned (o : Op) (w : World) (e : Ending) (w' : World) : Prop := e = .returned (.tuple #[opV (ownO o), .bool (ownK o)]) ∧ Below w.heap.size w w'
theorem beq_turn (a b : Int) : (a == b) = (b == a) := by rw [Bool.eq_iff_iff]; simp; exact eq_comm

set_option maxRecDepth 100000 in
set_option maxHeartbeats 2000000 in
theorem ownFields_any (w : World) (o : Op) : Calls Try.prog 171 #[.agg #[.int .i64 o.kind, .int .i64 o.who, .int .i64 o.inn, .int .i64 o.code, .int .i64 o.sec, .int .i64 o.fam, .int .i64 o.gen]] w (Owned o w) := by
  unfold Owned
  rcases k1 : (o.kind == 1)
  rotate_left
  · have ho : ownO o = ⟨o.kind, o.who, o.inn, 0, 0, 0, 0⟩ := by simp only [ownO, *] <;> rfl
    have hk : ownK o = true := by simp only [ownK, *] <;> rfl
    rw [ho, hk]
    clear ho hk
    go_enter Try.func171, Try.ntmps171
    go_wp2
    refine bodyPost_ret (v := .tuple #[.agg #[.int .i64 o.kind, .int .i64 o.who, .int .i64 o.inn, .int .i64 0, .int .i64 0, .int .i64 0, .int .i64 0], .bool true]) (by simp [results, Try.results171, go_sem]) rfl ⟨rfl, belowTwo _ _ _⟩
  rcases k5 : (o.kind == 5)
  rotate_left
  · have ho : ownO o = ⟨o.kind, o.who, o.inn, 0, 0, 0, 0⟩ := by simp only [ownO, *] <;> rfl
    have hk : ownK o = true := by simp only [ownK, *] <;> rfl
    rw [ho, hk]
    clear ho hk
    go_enter Try.func171, Try.ntmps171
    go_wp2
    refine bodyPost_ret (v := .tuple #[.agg #[.int .i64 o.kind, .int .i64 o.who, .int .i64 o.inn, .int .i64 0, .int .i64 0, .int .i64 0, .int .i64 0], .bool true]) (by simp [results, Try.results171, go_sem]) rfl ⟨rfl, belowTwo _ _ _⟩
  rcases k2 : (o.kind == 2)
  rotate_left
  · have ho : ownO o = ⟨o.kind, o.who, o.inn, o.code, o.sec, 0, 0⟩ := by simp only [ownO, *] <;> rfl
    have hk : ownK o = true := by simp only [ownK, *] <;> rfl
    rw [ho, hk]
    clear ho hk
    go_enter Try.func171, Try.ntmps171
    go_wp2
    refine bodyPost_ret (v := .tuple #[.agg #[.int .i64 o.kind, .int .i64 o.who, .int .i64 o.inn, .int .i64 o.code, .int .i64 o.sec, .int .i64 0, .int .i64 0], .bool true]) (by simp [results, Try.results171, go_sem]) rfl ⟨rfl, belowTwo _ _ _⟩
  rcases k3 : (o.kind == 3)
  rotate_left
  · have ho : ownO o = ⟨o.kind, 0, 0, o.code, o.sec, o.fam, 0⟩ := by simp only [ownO, *] <;> rfl
    have hk : ownK o = true := by simp only [ownK, *] <;> rfl
    rw [ho, hk]
    clear ho hk
    go_enter Try.func171, Try.ntmps171
    go_wp2
    refine bodyPost_ret (v := .tuple #[.agg #[.int .i64 o.kind, .int .i64 0, .int .i64 0, .int .i64 o.code, .int .i64 o.sec, .int .i64 o.fam, .int .i64 0], .bool true]) (by simp [results, Try.results171, go_sem]) rfl ⟨rfl, belowTwo _ _ _⟩
  rcases k4 : (o.kind == 4)
  rotate_left
  · have ho : ownO o = ⟨o.kind, 0, 0, 0, 0, o.fam, o.gen⟩ := by simp only [ownO, *] <;> rfl
    have hk : ownK o = true := by simp only [ownK, *] <;> rfl
    rw [ho, hk]
    clear ho hk
    go_enter Try.func171, Try.ntmps171
    go_wp2
    refine bodyPost_ret (v := .tuple #[.agg #[.int .i64 o.kind, .int .i64 0, .int .i64 0, .int .i64 0, .int .i64 0, .int .i64 o.fam, .int .i64 o.gen], .bool true]) (by simp [results, Try.results171, go_sem]) rfl ⟨rfl, belowTwo _ _ _⟩
  have ho : ownO o = ⟨0, 0, 0, 0, 0, 0, 0⟩ := by simp only [ownO, *] <;> rfl
  have hk : ownK o = false := by simp only [ownK, *] <;> rfl
  rw [ho, hk]
  clear ho hk
  go_enter Try.func171, Try.ntmps171
  go_wp2
  refine bodyPost_ret (v := .tuple #[.agg #[.int .i64 0, .int .i64 0, .int .i64 0, .int .i64 0, .int .i64 0, .int .i64 0, .int .i64 0], .bool false]) (by simp [results, Try.results171, go_sem]) rfl ⟨rfl, belowTwo _ _ _⟩

theorem opB_k {o : Op} (h : opK o = false) : opB o = false := by simp [opB, h]
theorem opB_who {o : Op} (h : inB o.who 0 9 = false) : opB o = false := by simp [opB, h]
theorem opB_inn {o : Op} (h : inB o.inn 0 9 = false) : opB o = false := by simp [opB, h]
theorem opB_code {o : Op} (h : inB o.code 0 9 = false) : opB o = false := by simp [opB, h]
theorem opB_sec {o : Op} (h : inB o.sec 0 99 = false) : opB o = false := by simp [opB, h]
theorem opB_fam {o : Op} (h : inB o.fam 0 9 = false) : opB o = false := by simp [opB, h]
theorem opB_gen {o : Op} (h : inB o.gen 0 99 = false) : opB o = false := by simp [opB, h]
theorem opB_yes {o : Op} (h1 : inB o.who 0 9 = true) (h2 : inB o.inn 0 9 = true) (h3 : inB o.code 0 9 = true) (h4 : inB o.sec 0 99 = true) (h5 : inB o.fam 0 9 = true) (h6 : inB o.gen 0 99 = true) (h : opK o = true) : opB o = true := by simp [opB, h1, h2, h3, h4, h5, h6, h]

set_option maxRecDepth 100000 in
set_option maxHeartbeats 4000000 in
theorem implOpOk_any (w : World) (o : Op) :
    Calls Try.prog 142 #[.agg #[.int .i64 o.kind, .int .i64 o.who, .int .i64 o.inn, .int .i64 o.code, .int .i64 o.sec, .int .i64 o.fam, .int .i64 o.gen]] w fun e w' => e = .returned (.bool (opB o)) ∧ Below w.heap.size w w' := by
  have HX := Lib.hid (Held.new w #[.int .i64 o.kind, .int .i64 o.who, .int .i64 o.inn, .int .i64 o.code, .int .i64 o.sec, .int .i64 o.fam, .int .i64 o.gen] 113)
  have HB := Lib.hid (belowOne w (.cells #[.int .i64 o.kind, .int .i64 o.who, .int .i64 o.inn, .int .i64 o.code, .int .i64 o.sec, .int .i64 o.fam, .int .i64 o.gen] 113))
  rcases k1 : (o.kind == 1)
  rotate_left
  ·
    rcases z_code : (o.code == 0)
    · have y_code := (beq_turn 0 o.code).trans z_code
      have HK := Lib.hid (opB_k (o := o) (by simp only [opK, *] <;> rfl))
      have ho : ownO o = ⟨o.kind, o.who, o.inn, 0, 0, 0, 0⟩ := by simp only [ownO, *] <;> rfl
      have hk : ownK o = true := by simp only [ownK, *] <;> rfl
      go_enter Try.func142, Try.ntmps142
      go_wp2_with fail
      refine (ownFields_any _ _).mono ?_
      rintro e w1 ⟨rfl, hb⟩
      rw [ho, hk]
      clear ho hk
      replace HX := Lib.hid (HX.out.below hb HX.out.1)
      replace HB := Lib.hid (belowNext HB.out hb)
      clear hb
      have x0 := HX.out.of 0 _ rfl
      have x1 := HX.out.of 1 _ rfl
      have x2 := HX.out.of 2 _ rfl
      have x3 := HX.out.of 3 _ rfl
      have x4 := HX.out.of 4 _ rfl
      have x5 := HX.out.of 5 _ rfl
      have x6 := HX.out.of 6 _ rfl
      have hsz : w.heap.size < w1.heap.size := HX.out.1
      go_wp2
      go_ret
      exact ⟨ret_bool HK.out.symm, HB.out.alloc (Nat.le_of_lt hsz) _⟩
    have y_code := (beq_turn 0 o.code).trans z_code
    rcases z_sec : (o.sec == 0)
    · have y_sec := (beq_turn 0 o.sec).trans z_sec
      have HK := Lib.hid (opB_k (o := o) (by simp only [opK, *] <;> rfl))
      have ho : ownO o = ⟨o.kind, o.who, o.inn, 0, 0, 0, 0⟩ := by simp only [ownO, *] <;> rfl
      have hk : ownK o = true := by simp only [ownK, *] <;> rfl
      go_enter Try.func142, Try.ntmps142
      go_wp2_with fail
      refine (ownFields_any _ _).mono ?_
      rintro e w1 ⟨rfl, hb⟩
      rw [ho, hk]
      clear ho hk
      replace HX := Lib.hid (HX.out.below hb HX.out.1)
      replace HB := Lib.hid (belowNext HB.out hb)
      clear hb
      have x0 := HX.out.of 0 _ rfl
      have x1 := HX.out.of 1 _ rfl
      have x2 := HX.out.of 2 _ rfl
      have x3 := HX.out.of 3 _ rfl
      have x4 := HX.out.of 4 _ rfl
      have x5 := HX.out.of 5 _ rfl
      have x6 := HX.out.of 6 _ rfl
      have hsz : w.heap.size < w1.heap.size := HX.out.1
      go_wp2
      go_ret
      exact ⟨ret_bool HK.out.symm, HB.out.alloc (Nat.le_of_lt hsz) _⟩
    have y_sec := (beq_turn 0 o.sec).trans z_sec
    rcases z_fam : (o.fam == 0)
    · have y_fam := (beq_turn 0 o.fam).trans z_fam
      have HK := Lib.hid (opB_k (o := o) (by simp only [opK, *] <;> rfl))
      have ho : ownO o = ⟨o.kind, o.who, o.inn, 0, 0, 0, 0⟩ := by simp only [ownO, *] <;> rfl
      have hk : ownK o = true := by simp only [ownK, *] <;> rfl
      go_enter Try.func142, Try.ntmps142
      go_wp2_with fail
      refine (ownFields_any _ _).mono ?_
      rintro e w1 ⟨rfl, hb⟩
      rw [ho, hk]
      clear ho hk
      replace HX := Lib.hid (HX.out.below hb HX.out.1)
      replace HB := Lib.hid (belowNext HB.out hb)
      clear hb
      have x0 := HX.out.of 0 _ rfl
      have x1 := HX.out.of 1 _ rfl
      have x2 := HX.out.of 2 _ rfl
      have x3 := HX.out.of 3 _ rfl
      have x4 := HX.out.of 4 _ rfl
      have x5 := HX.out.of 5 _ rfl
      have x6 := HX.out.of 6 _ rfl
      have hsz : w.heap.size < w1.heap.size := HX.out.1
      go_wp2
      go_ret
      exact ⟨ret_bool HK.out.symm, HB.out.alloc (Nat.le_of_lt hsz) _⟩
    have y_fam := (beq_turn 0 o.fam).trans z_fam
    rcases z_gen : (o.gen == 0)
    · have y_gen := (beq_turn 0 o.gen).trans z_gen
      have HK := Lib.hid (opB_k (o := o) (by simp only [opK, *] <;> rfl))
      have ho : ownO o = ⟨o.kind, o.who, o.inn, 0, 0, 0, 0⟩ := by simp only [ownO, *] <;> rfl
      have hk : ownK o = true := by simp only [ownK, *] <;> rfl
      go_enter Try.func142, Try.ntmps142
      go_wp2_with fail
      refine (ownFields_any _ _).mono ?_
      rintro e w1 ⟨rfl, hb⟩
      rw [ho, hk]
      clear ho hk
      replace HX := Lib.hid (HX.out.below hb HX.out.1)
      replace HB := Lib.hid (belowNext HB.out hb)
      clear hb
      have x0 := HX.out.of 0 _ rfl
      have x1 := HX.out.of 1 _ rfl
      have x2 := HX.out.of 2 _ rfl
      have x3 := HX.out.of 3 _ rfl
      have x4 := HX.out.of 4 _ rfl
      have x5 := HX.out.of 5 _ rfl
      have x6 := HX.out.of 6 _ rfl
      have hsz : w.heap.size < w1.heap.size := HX.out.1
      go_wp2
      go_ret
      exact ⟨ret_bool HK.out.symm, HB.out.alloc (Nat.le_of_lt hsz) _⟩
    have y_gen := (beq_turn 0 o.gen).trans z_gen
    have HK := Lib.hid (show opK o = true by simp only [opK, *] <;> rfl)
    have ho : ownO o = ⟨o.kind, o.who, o.inn, 0, 0, 0, 0⟩ := by simp only [ownO, *] <;> rfl
    have hk : ownK o = true := by simp only [ownK, *] <;> rfl
    go_enter Try.func142, Try.ntmps142
    go_wp2_with fail
    refine (ownFields_any _ _).mono ?_
    rintro e w1 ⟨rfl, hb⟩
    rw [ho, hk]
    clear ho hk
    replace HX := Lib.hid (HX.out.below hb HX.out.1)
    replace HB := Lib.hid (belowNext HB.out hb)
    clear hb
    have x0 := HX.out.of 0 _ rfl
    have x1 := HX.out.of 1 _ rfl
    have x2 := HX.out.of 2 _ rfl
    have x3 := HX.out.of 3 _ rfl
    have x4 := HX.out.of 4 _ rfl
    have x5 := HX.out.of 5 _ rfl
    have x6 := HX.out.of 6 _ rfl
    have hsz : w.heap.size < w1.heap.size := HX.out.1
    go_wp2
    have HBB := Lib.hid fun (a b : Obj) => (HB.out.alloc (Nat.le_of_lt hsz) a).alloc (show w.heap.size ≤ (w1.alloc a).heap.size by simp; omega) b
    go_loop [29] (fun i => ∃ k : Nat, k ≤ 4 ∧ i = .int .i64 k ∧ (0 < k → inB o.who 0 9 = true) ∧ (1 < k → inB o.inn 0 9 = true) ∧ (2 < k → inB o.code 0 9 = true) ∧ (3 < k → inB o.fam 0 9 = true)) (fun i => 4 - (intOf i).toNat)
    case atStart => exact ⟨0, by omega, rfl, fun h => absurd h (by omega), fun h => absurd h (by omega), fun h => absurd h (by omega), fun h => absurd h (by omega)⟩
    case round =>
      obtain ⟨k, hk4, rfl, p0, p1, p2, p3⟩ := hrel
      have hk5 : k = 0 ∨ k = 1 ∨ k = 2 ∨ k = 3 ∨ k = 4 := by omega
      have HP := Lib.hid (And.intro p0 (And.intro p1 (And.intro p2 p3)))
      clear p0 p1 p2 p3 hk4
      rcases hk5 with rfl | rfl | rfl | rfl | rfl
      · rcases hw : inB o.who 0 9
        · have HF := Lib.hid (opB_who hw)
          go_wp2_with (go_at_call 131; refine (within_any _ _ _ _).mono ?_; rintro e w' ⟨rfl, rfl⟩)
          go_ret
          exact ⟨ret_bool HF.out.symm, HBB.out _ _⟩
        ·
          go_wp2_with (go_at_call 131; refine (within_any _ _ _ _).mono ?_; rintro e w' ⟨rfl, rfl⟩)
          go_round
          case rel => exact ⟨1, by omega, by go_num, fun _ => trivial, fun h => absurd h (by omega), fun h => absurd h (by omega), fun h => absurd h (by omega)⟩
          case measure => simp [intOf]
      · rcases hw : inB o.inn 0 9
        · have HF := Lib.hid (opB_inn hw)
          go_wp2_with (go_at_call 131; refine (within_any _ _ _ _).mono ?_; rintro e w' ⟨rfl, rfl⟩)
          go_ret
          exact ⟨ret_bool HF.out.symm, HBB.out _ _⟩
        ·
          go_wp2_with (go_at_call 131; refine (within_any _ _ _ _).mono ?_; rintro e w' ⟨rfl, rfl⟩)
          go_round
          case rel => exact ⟨2, by omega, by go_num, fun _ => HP.out.1 (by omega), fun _ => trivial, fun h => absurd h (by omega), fun h => absurd h (by omega)⟩
          case measure => simp [intOf]
      · rcases hw : inB o.code 0 9
        · have HF := Lib.hid (opB_code hw)
          go_wp2_with (go_at_call 131; refine (within_any _ _ _ _).mono ?_; rintro e w' ⟨rfl, rfl⟩)
          go_ret
          exact ⟨ret_bool HF.out.symm, HBB.out _ _⟩
        ·
          go_wp2_with (go_at_call 131; refine (within_any _ _ _ _).mono ?_; rintro e w' ⟨rfl, rfl⟩)
          go_round
          case rel => exact ⟨3, by omega, by go_num, fun _ => HP.out.1 (by omega), fun _ => HP.out.2.1 (by omega), fun _ => trivial, fun h => absurd h (by omega)⟩
          case measure => simp [intOf]
      · rcases hw : inB o.fam 0 9
        · have HF := Lib.hid (opB_fam hw)
          go_wp2_with (go_at_call 131; refine (within_any _ _ _ _).mono ?_; rintro e w' ⟨rfl, rfl⟩)
          go_ret
          exact ⟨ret_bool HF.out.symm, HBB.out _ _⟩
        ·
          go_wp2_with (go_at_call 131; refine (within_any _ _ _ _).mono ?_; rintro e w' ⟨rfl, rfl⟩)
          go_round
          case rel => exact ⟨4, by omega, by go_num, fun _ => HP.out.1 (by omega), fun _ => HP.out.2.1 (by omega), fun _ => HP.out.2.2.1 (by omega), fun _ => trivial⟩
          case measure => simp [intOf]
      · rcases hs : inB o.sec 0 99
        · have HF := Lib.hid (opB_sec hs)
          go_wp2_with (go_at_call 131; refine (within_any _ _ _ _).mono ?_; rintro e w' ⟨rfl, rfl⟩)
          go_ret
          exact ⟨ret_bool HF.out.symm, HBB.out _ _⟩
        rcases hg : inB o.gen 0 99
        · have HF := Lib.hid (opB_gen hg)
          go_wp2_with (go_at_call 131; refine (within_any _ _ _ _).mono ?_; rintro e w' ⟨rfl, rfl⟩)
          go_ret
          exact ⟨ret_bool HF.out.symm, HBB.out _ _⟩
        · have HF := Lib.hid (opB_yes (HP.out.1 (by omega)) (HP.out.2.1 (by omega)) (HP.out.2.2.1 (by omega)) hs (HP.out.2.2.2 (by omega)) hg HK.out)
          go_wp2_with (go_at_call 131; refine (within_any _ _ _ _).mono ?_; rintro e w' ⟨rfl, rfl⟩)
          go_ret
          exact ⟨ret_bool HF.out.symm, HBB.out _ _⟩
  rcases k5 : (o.kind == 5)
  rotate_left
  ·
    rcases z_code : (o.code == 0)
    · have y_code := (beq_turn 0 o.code).trans z_code
      have HK := Lib.hid (opB_k (o := o) (by simp only [opK, *] <;> rfl))
      have ho : ownO o = ⟨o.kind, o.who, o.inn, 0, 0, 0, 0⟩ := by simp only [ownO, *] <;> rfl
      have hk : ownK o = true := by simp only [ownK, *] <;> rfl
      go_enter Try.func142, Try.ntmps142
      go_wp2_with fail
      refine (ownFields_any _ _).mono ?_
      rintro e w1 ⟨rfl, hb⟩
      rw [ho, hk]
      clear ho hk
      replace HX := Lib.hid (HX.out.below hb HX.out.1)
      replace HB := Lib.hid (belowNext HB.out hb)
      clear hb
      have x0 := HX.out.of 0 _ rfl
      have x1 := HX.out.of 1 _ rfl
      have x2 := HX.out.of 2 _ rfl
      have x3 := HX.out.of 3 _ rfl
      have x4 := HX.out.of 4 _ rfl
      have x5 := HX.out.of 5 _ rfl
      have x6 := HX.out.of 6 _ rfl
      have hsz : w.heap.size < w1.heap.size := HX.out.1
      go_wp2
      go_ret
      exact ⟨ret_bool HK.out.symm, HB.out.alloc (Nat.le_of_lt hsz) _⟩
    have y_code := (beq_turn 0 o.code).trans z_code
    rcases z_sec : (o.sec == 0)
    · have y_sec := (beq_turn 0 o.sec).trans z_sec
      have HK := Lib.hid (opB_k (o := o) (by simp only [opK, *] <;> rfl))
      have ho : ownO o = ⟨o.kind, o.who, o.inn, 0, 0, 0, 0⟩ := by simp only [ownO, *] <;> rfl
      have hk : ownK o = true := by simp only [ownK, *] <;> rfl
      go_enter Try.func142, Try.ntmps142
      go_wp2_with fail
      refine (ownFields_any _ _).mono ?_
      rintro e w1 ⟨rfl, hb⟩
      rw [ho, hk]
      clear ho hk
      replace HX := Lib.hid (HX.out.below hb HX.out.1)
      replace HB := Lib.hid (belowNext HB.out hb)
      clear hb
      have x0 := HX.out.of 0 _ rfl
      have x1 := HX.out.of 1 _ rfl
      have x2 := HX.out.of 2 _ rfl
      have x3 := HX.out.of 3 _ rfl
      have x4 := HX.out.of 4 _ rfl
      have x5 := HX.out.of 5 _ rfl
      have x6 := HX.out.of 6 _ rfl
      have hsz : w.heap.size < w1.heap.size := HX.out.1
      go_wp2
      go_ret
      exact ⟨ret_bool HK.out.symm, HB.out.alloc (Nat.le_of_lt hsz) _⟩
    have y_sec := (beq_turn 0 o.sec).trans z_sec
    rcases z_fam : (o.fam == 0)
    · have y_fam := (beq_turn 0 o.fam).trans z_fam
      have HK := Lib.hid (opB_k (o := o) (by simp only [opK, *] <;> rfl))
      have ho : ownO o = ⟨o.kind, o.who, o.inn, 0, 0, 0, 0⟩ := by simp only [ownO, *] <;> rfl
      have hk : ownK o = true := by simp only [ownK, *] <;> rfl
      go_enter Try.func142, Try.ntmps142
      go_wp2_with fail
      refine (ownFields_any _ _).mono ?_
      rintro e w1 ⟨rfl, hb⟩
      rw [ho, hk]
      clear ho hk
      replace HX := Lib.hid (HX.out.below hb HX.out.1)
      replace HB := Lib.hid (belowNext HB.out hb)
      clear hb
      have x0 := HX.out.of 0 _ rfl
      have x1 := HX.out.of 1 _ rfl
      have x2 := HX.out.of 2 _ rfl
      have x3 := HX.out.of 3 _ rfl
      have x4 := HX.out.of 4 _ rfl
      have x5 := HX.out.of 5 _ rfl
      have x6 := HX.out.of 6 _ rfl
      have hsz : w.heap.size < w1.heap.size := HX.out.1
      go_wp2
      go_ret
      exact ⟨ret_bool HK.out.symm, HB.out.alloc (Nat.le_of_lt hsz) _⟩
    have y_fam := (beq_turn 0 o.fam).trans z_fam
    rcases z_gen : (o.gen == 0)
    · have y_gen := (beq_turn 0 o.gen).trans z_gen
      have HK := Lib.hid (opB_k (o := o) (by simp only [opK, *] <;> rfl))
      have ho : ownO o = ⟨o.kind, o.who, o.inn, 0, 0, 0, 0⟩ := by simp only [ownO, *] <;> rfl
      have hk : ownK o = true := by simp only [ownK, *] <;> rfl
      go_enter Try.func142, Try.ntmps142
      go_wp2_with fail
      refine (ownFields_any _ _).mono ?_
      rintro e w1 ⟨rfl, hb⟩
      rw [ho, hk]
      clear ho hk
      replace HX := Lib.hid (HX.out.below hb HX.out.1)
      replace HB := Lib.hid (belowNext HB.out hb)
      clear hb
      have x0 := HX.out.of 0 _ rfl
      have x1 := HX.out.of 1 _ rfl
      have x2 := HX.out.of 2 _ rfl
      have x3 := HX.out.of 3 _ rfl
      have x4 := HX.out.of 4 _ rfl
      have x5 := HX.out.of 5 _ rfl
      have x6 := HX.out.of 6 _ rfl
      have hsz : w.heap.size < w1.heap.size := HX.out.1
      go_wp2
      go_ret
      exact ⟨ret_bool HK.out.symm, HB.out.alloc (Nat.le_of_lt hsz) _⟩
    have y_gen := (beq_turn 0 o.gen).trans z_gen
    have HK := Lib.hid (show opK o = true by simp only [opK, *] <;> rfl)
    have ho : ownO o = ⟨o.kind, o.who, o.inn, 0, 0, 0, 0⟩ := by simp only [ownO, *] <;> rfl
    have hk : ownK o = true := by simp only [ownK, *] <;> rfl
    go_enter Try.func142, Try.ntmps142
    go_wp2_with fail
    refine (ownFields_any _ _).mono ?_
    rintro e w1 ⟨rfl, hb⟩
    rw [ho, hk]
    clear ho hk
    replace HX := Lib.hid (HX.out.below hb HX.out.1)
    replace HB := Lib.hid (belowNext HB.out hb)
    clear hb
    have x0 := HX.out.of 0 _ rfl
    have x1 := HX.out.of 1 _ rfl
    have x2 := HX.out.of 2 _ rfl
    have x3 := HX.out.of 3 _ rfl
    have x4 := HX.out.of 4 _ rfl
    have x5 := HX.out.of 5 _ rfl
    have x6 := HX.out.of 6 _ rfl
    have hsz : w.heap.size < w1.heap.size := HX.out.1
    go_wp2
    have HBB := Lib.hid fun (a b : Obj) => (HB.out.alloc (Nat.le_of_lt hsz) a).alloc (show w.heap.size ≤ (w1.alloc a).heap.size by simp; omega) b
    go_loop [29] (fun i => ∃ k : Nat, k ≤ 4 ∧ i = .int .i64 k ∧ (0 < k → inB o.who 0 9 = true) ∧ (1 < k → inB o.inn 0 9 = true) ∧ (2 < k → inB o.code 0 9 = true) ∧ (3 < k → inB o.fam 0 9 = true)) (fun i => 4 - (intOf i).toNat)
    case atStart => exact ⟨0, by omega, rfl, fun h => absurd h (by omega), fun h => absurd h (by omega), fun h => absurd h (by omega), fun h => absurd h (by omega)⟩
    case round =>
      obtain ⟨k, hk4, rfl, p0, p1, p2, p3⟩ := hrel
      have hk5 : k = 0 ∨ k = 1 ∨ k = 2 ∨ k = 3 ∨ k = 4 := by omega
      have HP := Lib.hid (And.intro p0 (And.intro p1 (And.intro p2 p3)))
      clear p0 p1 p2 p3 hk4
      rcases hk5 with rfl | rfl | rfl | rfl | rfl
      · rcases hw : inB o.who 0 9
        · have HF := Lib.hid (opB_who hw)
          go_wp2_with (go_at_call 131; refine (within_any _ _ _ _).mono ?_; rintro e w' ⟨rfl, rfl⟩)
          go_ret
          exact ⟨ret_bool HF.out.symm, HBB.out _ _⟩
        ·
          go_wp2_with (go_at_call 131; refine (within_any _ _ _ _).mono ?_; rintro e w' ⟨rfl, rfl⟩)
          go_round
          case rel => exact ⟨1, by omega, by go_num, fun _ => trivial, fun h => absurd h (by omega), fun h => absurd h (by omega), fun h => absurd h (by omega)⟩
          case measure => simp [intOf]
      · rcases hw : inB o.inn 0 9
        · have HF := Lib.hid (opB_inn hw)
          go_wp2_with (go_at_call 131; refine (within_any _ _ _ _).mono ?_; rintro e w' ⟨rfl, rfl⟩)
          go_ret
          exact ⟨ret_bool HF.out.symm, HBB.out _ _⟩
        ·
          go_wp2_with (go_at_call 131; refine (within_any _ _ _ _).mono ?_; rintro e w' ⟨rfl, rfl⟩)
          go_round
          case rel => exact ⟨2, by omega, by go_num, fun _ => HP.out.1 (by omega), fun _ => trivial, fun h => absurd h (by omega), fun h => absurd h (by omega)⟩
          case measure => simp [intOf]
      · rcases hw : inB o.code 0 9
        · have HF := Lib.hid (opB_code hw)
          go_wp2_with (go_at_call 131; refine (within_any _ _ _ _).mono ?_; rintro e w' ⟨rfl, rfl⟩)
          go_ret
          exact ⟨ret_bool HF.out.symm, HBB.out _ _⟩
        ·
          go_wp2_with (go_at_call 131; refine (within_any _ _ _ _).mono ?_; rintro e w' ⟨rfl, rfl⟩)
          go_round
          case rel => exact ⟨3, by omega, by go_num, fun _ => HP.out.1 (by omega), fun _ => HP.out.2.1 (by omega), fun _ => trivial, fun h => absurd h (by omega)⟩
          case measure => simp [intOf]
      · rcases hw : inB o.fam 0 9
        · have HF := Lib.hid (opB_fam hw)
          go_wp2_with (go_at_call 131; refine (within_any _ _ _ _).mono ?_; rintro e w' ⟨rfl, rfl⟩)
          go_ret
          exact ⟨ret_bool HF.out.symm, HBB.out _ _⟩
        ·
          go_wp2_with (go_at_call 131; refine (within_any _ _ _ _).mono ?_; rintro e w' ⟨rfl, rfl⟩)
          go_round
          case rel => exact ⟨4, by omega, by go_num, fun _ => HP.out.1 (by omega), fun _ => HP.out.2.1 (by omega), fun _ => HP.out.2.2.1 (by omega), fun _ => trivial⟩
          case measure => simp [intOf]
      · rcases hs : inB o.sec 0 99
        · have HF := Lib.hid (opB_sec hs)
          go_wp2_with (go_at_call 131; refine (within_any _ _ _ _).mono ?_; rintro e w' ⟨rfl, rfl⟩)
          go_ret
          exact ⟨ret_bool HF.out.symm, HBB.out _ _⟩
        rcases hg : inB o.gen 0 99
        · have HF := Lib.hid (opB_gen hg)
          go_wp2_with (go_at_call 131; refine (within_any _ _ _ _).mono ?_; rintro e w' ⟨rfl, rfl⟩)
          go_ret
          exact ⟨ret_bool HF.out.symm, HBB.out _ _⟩
        · have HF := Lib.hid (opB_yes (HP.out.1 (by omega)) (HP.out.2.1 (by omega)) (HP.out.2.2.1 (by omega)) hs (HP.out.2.2.2 (by omega)) hg HK.out)
          go_wp2_with (go_at_call 131; refine (within_any _ _ _ _).mono ?_; rintro e w' ⟨rfl, rfl⟩)
          go_ret
          exact ⟨ret_bool HF.out.symm, HBB.out _ _⟩
  rcases k2 : (o.kind == 2)
  rotate_left
  ·
    rcases z_fam : (o.fam == 0)
    · have y_fam := (beq_turn 0 o.fam).trans z_fam
      have HK := Lib.hid (opB_k (o := o) (by simp only [opK, *] <;> rfl))
      have ho : ownO o = ⟨o.kind, o.who, o.inn, o.code, o.sec, 0, 0⟩ := by simp only [ownO, *] <;> rfl
      have hk : ownK o = true := by simp only [ownK, *] <;> rfl
      go_enter Try.func142, Try.ntmps142
      go_wp2_with fail
      refine (ownFields_any _ _).mono ?_
      rintro e w1 ⟨rfl, hb⟩
      rw [ho, hk]
      clear ho hk
      replace HX := Lib.hid (HX.out.below hb HX.out.1)
      replace HB := Lib.hid (belowNext HB.out hb)
      clear hb
      have x0 := HX.out.of 0 _ rfl
      have x1 := HX.out.of 1 _ rfl
      have x2 := HX.out.of 2 _ rfl
      have x3 := HX.out.of 3 _ rfl
      have x4 := HX.out.of 4 _ rfl
      have x5 := HX.out.of 5 _ rfl
      have x6 := HX.out.of 6 _ rfl
      have hsz : w.heap.size < w1.heap.size := HX.out.1
      go_wp2
      go_ret
      exact ⟨ret_bool HK.out.symm, HB.out.alloc (Nat.le_of_lt hsz) _⟩
    have y_fam := (beq_turn 0 o.fam).trans z_fam
    rcases z_gen : (o.gen == 0)
    · have y_gen := (beq_turn 0 o.gen).trans z_gen
      have HK := Lib.hid (opB_k (o := o) (by simp only [opK, *] <;> rfl))
      have ho : ownO o = ⟨o.kind, o.who, o.inn, o.code, o.sec, 0, 0⟩ := by simp only [ownO, *] <;> rfl
      have hk : ownK o = true := by simp only [ownK, *] <;> rfl
      go_enter Try.func142, Try.ntmps142
      go_wp2_with fail
      refine (ownFields_any _ _).mono ?_
      rintro e w1 ⟨rfl, hb⟩
      rw [ho, hk]
      clear ho hk
      replace HX := Lib.hid (HX.out.below hb HX.out.1)
      replace HB := Lib.hid (belowNext HB.out hb)
      clear hb
      have x0 := HX.out.of 0 _ rfl
      have x1 := HX.out.of 1 _ rfl
      have x2 := HX.out.of 2 _ rfl
      have x3 := HX.out.of 3 _ rfl
      have x4 := HX.out.of 4 _ rfl
      have x5 := HX.out.of 5 _ rfl
      have x6 := HX.out.of 6 _ rfl
      have hsz : w.heap.size < w1.heap.size := HX.out.1
      go_wp2
      go_ret
      exact ⟨ret_bool HK.out.symm, HB.out.alloc (Nat.le_of_lt hsz) _⟩
    have y_gen := (beq_turn 0 o.gen).trans z_gen
    have HK := Lib.hid (show opK o = true by simp only [opK, *] <;> rfl)
    have ho : ownO o = ⟨o.kind, o.who, o.inn, o.code, o.sec, 0, 0⟩ := by simp only [ownO, *] <;> rfl
    have hk : ownK o = true := by simp only [ownK, *] <;> rfl
    go_enter Try.func142, Try.ntmps142
    go_wp2_with fail
    refine (ownFields_any _ _).mono ?_
    rintro e w1 ⟨rfl, hb⟩
    rw [ho, hk]
    clear ho hk
    replace HX := Lib.hid (HX.out.below hb HX.out.1)
    replace HB := Lib.hid (belowNext HB.out hb)
    clear hb
    have x0 := HX.out.of 0 _ rfl
    have x1 := HX.out.of 1 _ rfl
    have x2 := HX.out.of 2 _ rfl
    have x3 := HX.out.of 3 _ rfl
    have x4 := HX.out.of 4 _ rfl
    have x5 := HX.out.of 5 _ rfl
    have x6 := HX.out.of 6 _ rfl
    have hsz : w.heap.size < w1.heap.size := HX.out.1
    go_wp2
    have HBB := Lib.hid fun (a b : Obj) => (HB.out.alloc (Nat.le_of_lt hsz) a).alloc (show w.heap.size ≤ (w1.alloc a).heap.size by simp; omega) b
    go_loop [29] (fun i => ∃ k : Nat, k ≤ 4 ∧ i = .int .i64 k ∧ (0 < k → inB o.who 0 9 = true) ∧ (1 < k → inB o.inn 0 9 = true) ∧ (2 < k → inB o.code 0 9 = true) ∧ (3 < k → inB o.fam 0 9 = true)) (fun i => 4 - (intOf i).toNat)
    case atStart => exact ⟨0, by omega, rfl, fun h => absurd h (by omega), fun h => absurd h (by omega), fun h => absurd h (by omega), fun h => absurd h (by omega)⟩
    case round =>
      obtain ⟨k, hk4, rfl, p0, p1, p2, p3⟩ := hrel
      have hk5 : k = 0 ∨ k = 1 ∨ k = 2 ∨ k = 3 ∨ k = 4 := by omega
      have HP := Lib.hid (And.intro p0 (And.intro p1 (And.intro p2 p3)))
      clear p0 p1 p2 p3 hk4
      rcases hk5 with rfl | rfl | rfl | rfl | rfl
      · rcases hw : inB o.who 0 9
        · have HF := Lib.hid (opB_who hw)
          go_wp2_with (go_at_call 131; refine (within_any _ _ _ _).mono ?_; rintro e w' ⟨rfl, rfl⟩)
          go_ret
          exact ⟨ret_bool HF.out.symm, HBB.out _ _⟩
        ·
          go_wp2_with (go_at_call 131; refine (within_any _ _ _ _).mono ?_; rintro e w' ⟨rfl, rfl⟩)
          go_round
          case rel => exact ⟨1, by omega, by go_num, fun _ => trivial, fun h => absurd h (by omega), fun h => absurd h (by omega), fun h => absurd h (by omega)⟩
          case measure => simp [intOf]
      · rcases hw : inB o.inn 0 9
        · have HF := Lib.hid (opB_inn hw)
          go_wp2_with (go_at_call 131; refine (within_any _ _ _ _).mono ?_; rintro e w' ⟨rfl, rfl⟩)
          go_ret
          exact ⟨ret_bool HF.out.symm, HBB.out _ _⟩
        ·
          go_wp2_with (go_at_call 131; refine (within_any _ _ _ _).mono ?_; rintro e w' ⟨rfl, rfl⟩)
          go_round
          case rel => exact ⟨2, by omega, by go_num, fun _ => HP.out.1 (by omega), fun _ => trivial, fun h => absurd h (by omega), fun h => absurd h (by omega)⟩
          case measure => simp [intOf]
      · rcases hw : inB o.code 0 9
        · have HF := Lib.hid (opB_code hw)
          go_wp2_with (go_at_call 131; refine (within_any _ _ _ _).mono ?_; rintro e w' ⟨rfl, rfl⟩)
          go_ret
          exact ⟨ret_bool HF.out.symm, HBB.out _ _⟩
        ·
          go_wp2_with (go_at_call 131; refine (within_any _ _ _ _).mono ?_; rintro e w' ⟨rfl, rfl⟩)
          go_round
          case rel => exact ⟨3, by omega, by go_num, fun _ => HP.out.1 (by omega), fun _ => HP.out.2.1 (by omega), fun _ => trivial, fun h => absurd h (by omega)⟩
          case measure => simp [intOf]
      · rcases hw : inB o.fam 0 9
        · have HF := Lib.hid (opB_fam hw)
          go_wp2_with (go_at_call 131; refine (within_any _ _ _ _).mono ?_; rintro e w' ⟨rfl, rfl⟩)
          go_ret
          exact ⟨ret_bool HF.out.symm, HBB.out _ _⟩
        ·
          go_wp2_with (go_at_call 131; refine (within_any _ _ _ _).mono ?_; rintro e w' ⟨rfl, rfl⟩)
          go_round
          case rel => exact ⟨4, by omega, by go_num, fun _ => HP.out.1 (by omega), fun _ => HP.out.2.1 (by omega), fun _ => HP.out.2.2.1 (by omega), fun _ => trivial⟩
          case measure => simp [intOf]
      · rcases hs : inB o.sec 0 99
        · have HF := Lib.hid (opB_sec hs)
          go_wp2_with (go_at_call 131; refine (within_any _ _ _ _).mono ?_; rintro e w' ⟨rfl, rfl⟩)
          go_ret
          exact ⟨ret_bool HF.out.symm, HBB.out _ _⟩
        rcases hg : inB o.gen 0 99
        · have HF := Lib.hid (opB_gen hg)
          go_wp2_with (go_at_call 131; refine (within_any _ _ _ _).mono ?_; rintro e w' ⟨rfl, rfl⟩)
          go_ret
          exact ⟨ret_bool HF.out.symm, HBB.out _ _⟩
        · have HF := Lib.hid (opB_yes (HP.out.1 (by omega)) (HP.out.2.1 (by omega)) (HP.out.2.2.1 (by omega)) hs (HP.out.2.2.2 (by omega)) hg HK.out)
          go_wp2_with (go_at_call 131; refine (within_any _ _ _ _).mono ?_; rintro e w' ⟨rfl, rfl⟩)
          go_ret
          exact ⟨ret_bool HF.out.symm, HBB.out _ _⟩
  rcases k3 : (o.kind == 3)
  rotate_left
  ·
    rcases z_who : (o.who == 0)
    · have y_who := (beq_turn 0 o.who).trans z_who
      have HK := Lib.hid (opB_k (o := o) (by simp only [opK, *] <;> rfl))
      have ho : ownO o = ⟨o.kind, 0, 0, o.code, o.sec, o.fam, 0⟩ := by simp only [ownO, *] <;> rfl
      have hk : ownK o = true := by simp only [ownK, *] <;> rfl
      go_enter Try.func142, Try.ntmps142
      go_wp2_with fail
      refine (ownFields_any _ _).mono ?_
      rintro e w1 ⟨rfl, hb⟩
      rw [ho, hk]
      clear ho hk
      replace HX := Lib.hid (HX.out.below hb HX.out.1)
      replace HB := Lib.hid (belowNext HB.out hb)
      clear hb
      have x0 := HX.out.of 0 _ rfl
      have x1 := HX.out.of 1 _ rfl
      have x2 := HX.out.of 2 _ rfl
      have x3 := HX.out.of 3 _ rfl
      have x4 := HX.out.of 4 _ rfl
      have x5 := HX.out.of 5 _ rfl
      have x6 := HX.out.of 6 _ rfl
      have hsz : w.heap.size < w1.heap.size := HX.out.1
      go_wp2
      go_ret
      exact ⟨ret_bool HK.out.symm, HB.out.alloc (Nat.le_of_lt hsz) _⟩
    have y_who := (beq_turn 0 o.who).trans z_who
    rcases z_inn : (o.inn == 0)
    · have y_inn := (beq_turn 0 o.inn).trans z_inn
      have HK := Lib.hid (opB_k (o := o) (by simp only [opK, *] <;> rfl))
      have ho : ownO o = ⟨o.kind, 0, 0, o.code, o.sec, o.fam, 0⟩ := by simp only [ownO, *] <;> rfl
      have hk : ownK o = true := by simp only [ownK, *] <;> rfl
      go_enter Try.func142, Try.ntmps142
      go_wp2_with fail
      refine (ownFields_any _ _).mono ?_
      rintro e w1 ⟨rfl, hb⟩
      rw [ho, hk]
      clear ho hk
      replace HX := Lib.hid (HX.out.below hb HX.out.1)
      replace HB := Lib.hid (belowNext HB.out hb)
      clear hb
      have x0 := HX.out.of 0 _ rfl
      have x1 := HX.out.of 1 _ rfl
      have x2 := HX.out.of 2 _ rfl
      have x3 := HX.out.of 3 _ rfl
      have x4 := HX.out.of 4 _ rfl
      have x5 := HX.out.of 5 _ rfl
      have x6 := HX.out.of 6 _ rfl
      have hsz : w.heap.size < w1.heap.size := HX.out.1
      go_wp2
      go_ret
      exact ⟨ret_bool HK.out.symm, HB.out.alloc (Nat.le_of_lt hsz) _⟩
    have y_inn := (beq_turn 0 o.inn).trans z_inn
    rcases z_gen : (o.gen == 0)
    · have y_gen := (beq_turn 0 o.gen).trans z_gen
      have HK := Lib.hid (opB_k (o := o) (by simp only [opK, *] <;> rfl))
      have ho : ownO o = ⟨o.kind, 0, 0, o.code, o.sec, o.fam, 0⟩ := by simp only [ownO, *] <;> rfl
      have hk : ownK o = true := by simp only [ownK, *] <;> rfl
      go_enter Try.func142, Try.ntmps142
      go_wp2_with fail
      refine (ownFields_any _ _).mono ?_
      rintro e w1 ⟨rfl, hb⟩
      rw [ho, hk]
      clear ho hk
      replace HX := Lib.hid (HX.out.below hb HX.out.1)
      replace HB := Lib.hid (belowNext HB.out hb)
      clear hb
      have x0 := HX.out.of 0 _ rfl
      have x1 := HX.out.of 1 _ rfl
      have x2 := HX.out.of 2 _ rfl
      have x3 := HX.out.of 3 _ rfl
      have x4 := HX.out.of 4 _ rfl
      have x5 := HX.out.of 5 _ rfl
      have x6 := HX.out.of 6 _ rfl
      have hsz : w.heap.size < w1.heap.size := HX.out.1
      go_wp2
      go_ret
      exact ⟨ret_bool HK.out.symm, HB.out.alloc (Nat.le_of_lt hsz) _⟩
    have y_gen := (beq_turn 0 o.gen).trans z_gen
    have HK := Lib.hid (show opK o = true by simp only [opK, *] <;> rfl)
    have ho : ownO o = ⟨o.kind, 0, 0, o.code, o.sec, o.fam, 0⟩ := by simp only [ownO, *] <;> rfl
    have hk : ownK o = true := by simp only [ownK, *] <;> rfl
    go_enter Try.func142, Try.ntmps142
    go_wp2_with fail
    refine (ownFields_any _ _).mono ?_
    rintro e w1 ⟨rfl, hb⟩
    rw [ho, hk]
    clear ho hk
    replace HX := Lib.hid (HX.out.below hb HX.out.1)
    replace HB := Lib.hid (belowNext HB.out hb)
    clear hb
    have x0 := HX.out.of 0 _ rfl
    have x1 := HX.out.of 1 _ rfl
    have x2 := HX.out.of 2 _ rfl
    have x3 := HX.out.of 3 _ rfl
    have x4 := HX.out.of 4 _ rfl
    have x5 := HX.out.of 5 _ rfl
    have x6 := HX.out.of 6 _ rfl
    have hsz : w.heap.size < w1.heap.size := HX.out.1
    go_wp2
    have HBB := Lib.hid fun (a b : Obj) => (HB.out.alloc (Nat.le_of_lt hsz) a).alloc (show w.heap.size ≤ (w1.alloc a).heap.size by simp; omega) b
    go_loop [29] (fun i => ∃ k : Nat, k ≤ 4 ∧ i = .int .i64 k ∧ (0 < k → inB o.who 0 9 = true) ∧ (1 < k → inB o.inn 0 9 = true) ∧ (2 < k → inB o.code 0 9 = true) ∧ (3 < k → inB o.fam 0 9 = true)) (fun i => 4 - (intOf i).toNat)
    case atStart => exact ⟨0, by omega, rfl, fun h => absurd h (by omega), fun h => absurd h (by omega), fun h => absurd h (by omega), fun h => absurd h (by omega)⟩
    case round =>
      obtain ⟨k, hk4, rfl, p0, p1, p2, p3⟩ := hrel
      have hk5 : k = 0 ∨ k = 1 ∨ k = 2 ∨ k = 3 ∨ k = 4 := by omega
      have HP := Lib.hid (And.intro p0 (And.intro p1 (And.intro p2 p3)))
      clear p0 p1 p2 p3 hk4
      rcases hk5 with rfl | rfl | rfl | rfl | rfl
      · rcases hw : inB o.who 0 9
        · have HF := Lib.hid (opB_who hw)
          go_wp2_with (go_at_call 131; refine (within_any _ _ _ _).mono ?_; rintro e w' ⟨rfl, rfl⟩)
          go_ret
          exact ⟨ret_bool HF.out.symm, HBB.out _ _⟩
        ·
          go_wp2_with (go_at_call 131; refine (within_any _ _ _ _).mono ?_; rintro e w' ⟨rfl, rfl⟩)
          go_round
          case rel => exact ⟨1, by omega, by go_num, fun _ => trivial, fun h => absurd h (by omega), fun h => absurd h (by omega), fun h => absurd h (by omega)⟩
          case measure => simp [intOf]
      · rcases hw : inB o.inn 0 9
        · have HF := Lib.hid (opB_inn hw)
          go_wp2_with (go_at_call 131; refine (within_any _ _ _ _).mono ?_; rintro e w' ⟨rfl, rfl⟩)
          go_ret
          exact ⟨ret_bool HF.out.symm, HBB.out _ _⟩
        ·
          go_wp2_with (go_at_call 131; refine (within_any _ _ _ _).mono ?_; rintro e w' ⟨rfl, rfl⟩)
          go_round
          case rel => exact ⟨2, by omega, by go_num, fun _ => HP.out.1 (by omega), fun _ => trivial, fun h => absurd h (by omega), fun h => absurd h (by omega)⟩
          case measure => simp [intOf]
      · rcases hw : inB o.code 0 9
        · have HF := Lib.hid (opB_code hw)
          go_wp2_with (go_at_call 131; refine (within_any _ _ _ _).mono ?_; rintro e w' ⟨rfl, rfl⟩)
          go_ret
          exact ⟨ret_bool HF.out.symm, HBB.out _ _⟩
        ·
          go_wp2_with (go_at_call 131; refine (within_any _ _ _ _).mono ?_; rintro e w' ⟨rfl, rfl⟩)
          go_round
          case rel => exact ⟨3, by omega, by go_num, fun _ => HP.out.1 (by omega), fun _ => HP.out.2.1 (by omega), fun _ => trivial, fun h => absurd h (by omega)⟩
          case measure => simp [intOf]
      · rcases hw : inB o.fam 0 9
        · have HF := Lib.hid (opB_fam hw)
          go_wp2_with (go_at_call 131; refine (within_any _ _ _ _).mono ?_; rintro e w' ⟨rfl, rfl⟩)
          go_ret
          exact ⟨ret_bool HF.out.symm, HBB.out _ _⟩
        ·
          go_wp2_with (go_at_call 131; refine (within_any _ _ _ _).mono ?_; rintro e w' ⟨rfl, rfl⟩)
          go_round
          case rel => exact ⟨4, by omega, by go_num, fun _ => HP.out.1 (by omega), fun _ => HP.out.2.1 (by omega), fun _ => HP.out.2.2.1 (by omega), fun _ => trivial⟩
          case measure => simp [intOf]
      · rcases hs : inB o.sec 0 99
        · have HF := Lib.hid (opB_sec hs)
          go_wp2_with (go_at_call 131; refine (within_any _ _ _ _).mono ?_; rintro e w' ⟨rfl, rfl⟩)
          go_ret
          exact ⟨ret_bool HF.out.symm, HBB.out _ _⟩
        rcases hg : inB o.gen 0 99
        · have HF := Lib.hid (opB_gen hg)
          go_wp2_with (go_at_call 131; refine (within_any _ _ _ _).mono ?_; rintro e w' ⟨rfl, rfl⟩)
          go_ret
          exact ⟨ret_bool HF.out.symm, HBB.out _ _⟩
        · have HF := Lib.hid (opB_yes (HP.out.1 (by omega)) (HP.out.2.1 (by omega)) (HP.out.2.2.1 (by omega)) hs (HP.out.2.2.2 (by omega)) hg HK.out)
          go_wp2_with (go_at_call 131; refine (within_any _ _ _ _).mono ?_; rintro e w' ⟨rfl, rfl⟩)
          go_ret
          exact ⟨ret_bool HF.out.symm, HBB.out _ _⟩
  rcases k4 : (o.kind == 4)
  rotate_left
  ·
    rcases z_who : (o.who == 0)
    · have y_who := (beq_turn 0 o.who).trans z_who
      have HK := Lib.hid (opB_k (o := o) (by simp only [opK, *] <;> rfl))
      have ho : ownO o = ⟨o.kind, 0, 0, 0, 0, o.fam, o.gen⟩ := by simp only [ownO, *] <;> rfl
      have hk : ownK o = true := by simp only [ownK, *] <;> rfl
      go_enter Try.func142, Try.ntmps142
      go_wp2_with fail
      refine (ownFields_any _ _).mono ?_
      rintro e w1 ⟨rfl, hb⟩
      rw [ho, hk]
      clear ho hk
      replace HX := Lib.hid (HX.out.below hb HX.out.1)
      replace HB := Lib.hid (belowNext HB.out hb)
      clear hb
      have x0 := HX.out.of 0 _ rfl
      have x1 := HX.out.of 1 _ rfl
      have x2 := HX.out.of 2 _ rfl
      have x3 := HX.out.of 3 _ rfl
      have x4 := HX.out.of 4 _ rfl
      have x5 := HX.out.of 5 _ rfl
      have x6 := HX.out.of 6 _ rfl
      have hsz : w.heap.size < w1.heap.size := HX.out.1
      go_wp2
      go_ret
      exact ⟨ret_bool HK.out.symm, HB.out.alloc (Nat.le_of_lt hsz) _⟩
    have y_who := (beq_turn 0 o.who).trans z_who
    rcases z_inn : (o.inn == 0)
    · have y_inn := (beq_turn 0 o.inn).trans z_inn
      have HK := Lib.hid (opB_k (o := o) (by simp only [opK, *] <;> rfl))
      have ho : ownO o = ⟨o.kind, 0, 0, 0, 0, o.fam, o.gen⟩ := by simp only [ownO, *] <;> rfl
      have hk : ownK o = true := by simp only [ownK, *] <;> rfl
      go_enter Try.func142, Try.ntmps142
      go_wp2_with fail
      refine (ownFields_any _ _).mono ?_
      rintro e w1 ⟨rfl, hb⟩
      rw [ho, hk]
      clear ho hk
      replace HX := Lib.hid (HX.out.below hb HX.out.1)
      replace HB := Lib.hid (belowNext HB.out hb)
      clear hb
      have x0 := HX.out.of 0 _ rfl
      have x1 := HX.out.of 1 _ rfl
      have x2 := HX.out.of 2 _ rfl
      have x3 := HX.out.of 3 _ rfl
      have x4 := HX.out.of 4 _ rfl
      have x5 := HX.out.of 5 _ rfl
      have x6 := HX.out.of 6 _ rfl
      have hsz : w.heap.size < w1.heap.size := HX.out.1
      go_wp2
      go_ret
      exact ⟨ret_bool HK.out.symm, HB.out.alloc (Nat.le_of_lt hsz) _⟩
    have y_inn := (beq_turn 0 o.inn).trans z_inn
    rcases z_code : (o.code == 0)
    · have y_code := (beq_turn 0 o.code).trans z_code
      have HK := Lib.hid (opB_k (o := o) (by simp only [opK, *] <;> rfl))
      have ho : ownO o = ⟨o.kind, 0, 0, 0, 0, o.fam, o.gen⟩ := by simp only [ownO, *] <;> rfl
      have hk : ownK o = true := by simp only [ownK, *] <;> rfl
      go_enter Try.func142, Try.ntmps142
      go_wp2_with fail
      refine (ownFields_any _ _).mono ?_
      rintro e w1 ⟨rfl, hb⟩
      rw [ho, hk]
      clear ho hk
      replace HX := Lib.hid (HX.out.below hb HX.out.1)
      replace HB := Lib.hid (belowNext HB.out hb)
      clear hb
      have x0 := HX.out.of 0 _ rfl
      have x1 := HX.out.of 1 _ rfl
      have x2 := HX.out.of 2 _ rfl
      have x3 := HX.out.of 3 _ rfl
      have x4 := HX.out.of 4 _ rfl
      have x5 := HX.out.of 5 _ rfl
      have x6 := HX.out.of 6 _ rfl
      have hsz : w.heap.size < w1.heap.size := HX.out.1
      go_wp2
      go_ret
      exact ⟨ret_bool HK.out.symm, HB.out.alloc (Nat.le_of_lt hsz) _⟩
    have y_code := (beq_turn 0 o.code).trans z_code
    rcases z_sec : (o.sec == 0)
    · have y_sec := (beq_turn 0 o.sec).trans z_sec
      have HK := Lib.hid (opB_k (o := o) (by simp only [opK, *] <;> rfl))
      have ho : ownO o = ⟨o.kind, 0, 0, 0, 0, o.fam, o.gen⟩ := by simp only [ownO, *] <;> rfl
      have hk : ownK o = true := by simp only [ownK, *] <;> rfl
      go_enter Try.func142, Try.ntmps142
      go_wp2_with fail
      refine (ownFields_any _ _).mono ?_
      rintro e w1 ⟨rfl, hb⟩
      rw [ho, hk]
      clear ho hk
      replace HX := Lib.hid (HX.out.below hb HX.out.1)
      replace HB := Lib.hid (belowNext HB.out hb)
      clear hb
      have x0 := HX.out.of 0 _ rfl
      have x1 := HX.out.of 1 _ rfl
      have x2 := HX.out.of 2 _ rfl
      have x3 := HX.out.of 3 _ rfl
      have x4 := HX.out.of 4 _ rfl
      have x5 := HX.out.of 5 _ rfl
      have x6 := HX.out.of 6 _ rfl
      have hsz : w.heap.size < w1.heap.size := HX.out.1
      go_wp2
      go_ret
      exact ⟨ret_bool HK.out.symm, HB.out.alloc (Nat.le_of_lt hsz) _⟩
    have y_sec := (beq_turn 0 o.sec).trans z_sec
    have HK := Lib.hid (show opK o = true by simp only [opK, *] <;> rfl)
    have ho : ownO o = ⟨o.kind, 0, 0, 0, 0, o.fam, o.gen⟩ := by simp only [ownO, *] <;> rfl
    have hk : ownK o = true := by simp only [ownK, *] <;> rfl
    go_enter Try.func142, Try.ntmps142
    go_wp2_with fail
    refine (ownFields_any _ _).mono ?_
    rintro e w1 ⟨rfl, hb⟩
    rw [ho, hk]
    clear ho hk
    replace HX := Lib.hid (HX.out.below hb HX.out.1)
    replace HB := Lib.hid (belowNext HB.out hb)
    clear hb
    have x0 := HX.out.of 0 _ rfl
    have x1 := HX.out.of 1 _ rfl
    have x2 := HX.out.of 2 _ rfl
    have x3 := HX.out.of 3 _ rfl
    have x4 := HX.out.of 4 _ rfl
    have x5 := HX.out.of 5 _ rfl
    have x6 := HX.out.of 6 _ rfl
    have hsz : w.heap.size < w1.heap.size := HX.out.1
    go_wp2
    have HBB := Lib.hid fun (a b : Obj) => (HB.out.alloc (Nat.le_of_lt hsz) a).alloc (show w.heap.size ≤ (w1.alloc a).heap.size by simp; omega) b
    go_loop [29] (fun i => ∃ k : Nat, k ≤ 4 ∧ i = .int .i64 k ∧ (0 < k → inB o.who 0 9 = true) ∧ (1 < k → inB o.inn 0 9 = true) ∧ (2 < k → inB o.code 0 9 = true) ∧ (3 < k → inB o.fam 0 9 = true)) (fun i => 4 - (intOf i).toNat)
    case atStart => exact ⟨0, by omega, rfl, fun h => absurd h (by omega), fun h => absurd h (by omega), fun h => absurd h (by omega), fun h => absurd h (by omega)⟩
    case round =>
      obtain ⟨k, hk4, rfl, p0, p1, p2, p3⟩ := hrel
      have hk5 : k = 0 ∨ k = 1 ∨ k = 2 ∨ k = 3 ∨ k = 4 := by omega
      have HP := Lib.hid (And.intro p0 (And.intro p1 (And.intro p2 p3)))
      clear p0 p1 p2 p3 hk4
      rcases hk5 with rfl | rfl | rfl | rfl | rfl
      · rcases hw : inB o.who 0 9
        · have HF := Lib.hid (opB_who hw)
          go_wp2_with (go_at_call 131; refine (within_any _ _ _ _).mono ?_; rintro e w' ⟨rfl, rfl⟩)
          go_ret
          exact ⟨ret_bool HF.out.symm, HBB.out _ _⟩
        ·
          go_wp2_with (go_at_call 131; refine (within_any _ _ _ _).mono ?_; rintro e w' ⟨rfl, rfl⟩)
          go_round
          case rel => exact ⟨1, by omega, by go_num, fun _ => trivial, fun h => absurd h (by omega), fun h => absurd h (by omega), fun h => absurd h (by omega)⟩
          case measure => simp [intOf]
      · rcases hw : inB o.inn 0 9
        · have HF := Lib.hid (opB_inn hw)
          go_wp2_with (go_at_call 131; refine (within_any _ _ _ _).mono ?_; rintro e w' ⟨rfl, rfl⟩)
          go_ret
          exact ⟨ret_bool HF.out.symm, HBB.out _ _⟩
        ·
          go_wp2_with (go_at_call 131; refine (within_any _ _ _ _).mono ?_; rintro e w' ⟨rfl, rfl⟩)
          go_round
          case rel => exact ⟨2, by omega, by go_num, fun _ => HP.out.1 (by omega), fun _ => trivial, fun h => absurd h (by omega), fun h => absurd h (by omega)⟩
          case measure => simp [intOf]
      · rcases hw : inB o.code 0 9
        · have HF := Lib.hid (opB_code hw)
          go_wp2_with (go_at_call 131; refine (within_any _ _ _ _).mono ?_; rintro e w' ⟨rfl, rfl⟩)
          go_ret
          exact ⟨ret_bool HF.out.symm, HBB.out _ _⟩
        ·
          go_wp2_with (go_at_call 131; refine (within_any _ _ _ _).mono ?_; rintro e w' ⟨rfl, rfl⟩)
          go_round
          case rel => exact ⟨3, by omega, by go_num, fun _ => HP.out.1 (by omega), fun _ => HP.out.2.1 (by omega), fun _ => trivial, fun h => absurd h (by omega)⟩
          case measure => simp [intOf]
      · rcases hw : inB o.fam 0 9
        · have HF := Lib.hid (opB_fam hw)
          go_wp2_with (go_at_call 131; refine (within_any _ _ _ _).mono ?_; rintro e w' ⟨rfl, rfl⟩)
          go_ret
          exact ⟨ret_bool HF.out.symm, HBB.out _ _⟩
        ·
          go_wp2_with (go_at_call 131; refine (within_any _ _ _ _).mono ?_; rintro e w' ⟨rfl, rfl⟩)
          go_round
          case rel => exact ⟨4, by omega, by go_num, fun _ => HP.out.1 (by omega), fun _ => HP.out.2.1 (by omega), fun _ => HP.out.2.2.1 (by omega), fun _ => trivial⟩
          case measure => simp [intOf]
      · rcases hs : inB o.sec 0 99
        · have HF := Lib.hid (opB_sec hs)
          go_wp2_with (go_at_call 131; refine (within_any _ _ _ _).mono ?_; rintro e w' ⟨rfl, rfl⟩)
          go_ret
          exact ⟨ret_bool HF.out.symm, HBB.out _ _⟩
        rcases hg : inB o.gen 0 99
        · have HF := Lib.hid (opB_gen hg)
          go_wp2_with (go_at_call 131; refine (within_any _ _ _ _).mono ?_; rintro e w' ⟨rfl, rfl⟩)
          go_ret
          exact ⟨ret_bool HF.out.symm, HBB.out _ _⟩
        · have HF := Lib.hid (opB_yes (HP.out.1 (by omega)) (HP.out.2.1 (by omega)) (HP.out.2.2.1 (by omega)) hs (HP.out.2.2.2 (by omega)) hg HK.out)
          go_wp2_with (go_at_call 131; refine (within_any _ _ _ _).mono ?_; rintro e w' ⟨rfl, rfl⟩)
          go_ret
          exact ⟨ret_bool HF.out.symm, HBB.out _ _⟩
  have HK := Lib.hid (opB_k (o := o) (by simp only [opK, *] <;> rfl))
  have ho : ownO o = ⟨0, 0, 0, 0, 0, 0, 0⟩ := by simp only [ownO, *] <;> rfl
  have hk : ownK o = false := by simp only [ownK, *] <;> rfl
  go_enter Try.func142, Try.ntmps142
  go_wp2_with fail
  refine (ownFields_any _ _).mono ?_
  rintro e w1 ⟨rfl, hb⟩
  rw [ho, hk]
  clear ho hk
  replace HX := Lib.hid (HX.out.below hb HX.out.1)
  replace HB := Lib.hid (belowNext HB.out hb)
  clear hb
  have x0 := HX.out.of 0 _ rfl
  have x1 := HX.out.of 1 _ rfl
  have x2 := HX.out.of 2 _ rfl
  have x3 := HX.out.of 3 _ rfl
  have x4 := HX.out.of 4 _ rfl
  have x5 := HX.out.of 5 _ rfl
  have x6 := HX.out.of 6 _ rfl
  have hsz : w.heap.size < w1.heap.size := HX.out.1
  go_wp2
  go_ret
  exact ⟨ret_bool HK.out.symm, HB.out.alloc (Nat.le_of_lt hsz) _⟩

end Go.Proofs.Ytecdibpiojgppaa
