/- What is done as a value behind the interface. By actgen.py. -/
import Derived.Test.YtecdibpiojgppaaGreatXPlanM3
import Derived.Test.YtecdibpiojgppaaGreatXOpOk
namespace Go.Proofs.YtecdibpiojgppaaGreat
open Go.RowKit

/-- The type of what is done. -/
def actT (k : Int) : TypeId := if k = 1 then 122 else if k = 2 then 124 else if k = 3 then 127 else if k = 4 then 128 else 129
set_option maxRecDepth 100000 in
set_option maxHeartbeats 2000000 in
theorem actionOf_no (w : World) (o : Op) (ho : opB o = false) :
    Calls Tryz.prog 46 #[opV o] w fun e w' => e = .returned (.tuple #[.nilIface, .bool false]) ∧ Below w.heap.size w w' := by
  have HB := Lib.hid (belowOne w (.cells #[.int .i64 o.kind, .int .i64 o.who, .int .i64 o.inn, .int .i64 o.code, .int .i64 o.sec, .int .i64 o.fam, .int .i64 o.gen] 25))
  have HX := Lib.hid (Held.new w #[.int .i64 o.kind, .int .i64 o.who, .int .i64 o.inn, .int .i64 o.code, .int .i64 o.sec, .int .i64 o.fam, .int .i64 o.gen] 25)
  go_enter Tryz.func46, Tryz.ntmps46
  go_wp2_with fail
  refine (implOpOk_any _ _).mono ?_
  rintro e w1 ⟨rfl, hb⟩
  rw [ho]
  replace HB := Lib.hid (belowNext HB.out hb)
  replace HX := Lib.hid (HX.out.below hb HX.out.1)
  clear hb
  clear HX
  go_wp2
  go_ret2
  exact ⟨rfl, HB.out⟩

set_option maxRecDepth 100000 in
set_option maxHeartbeats 2000000 in
theorem actionOf_1 (w : World) (o : Op) (ho : opB o = true) (hk : o.kind = 1) :
    Calls Tryz.prog 46 #[opV o] w fun e w' => e = .returned (.tuple #[.iface 122 (opV o), .bool true]) ∧ Below w.heap.size w w' := by
  have HK := Lib.hid hk
  clear hk
  have HB := Lib.hid (belowOne w (.cells #[.int .i64 o.kind, .int .i64 o.who, .int .i64 o.inn, .int .i64 o.code, .int .i64 o.sec, .int .i64 o.fam, .int .i64 o.gen] 25))
  have HX := Lib.hid (Held.new w #[.int .i64 o.kind, .int .i64 o.who, .int .i64 o.inn, .int .i64 o.code, .int .i64 o.sec, .int .i64 o.fam, .int .i64 o.gen] 25)
  go_enter Tryz.func46, Tryz.ntmps46
  go_wp2_with fail
  refine (implOpOk_any _ _).mono ?_
  rintro e w1 ⟨rfl, hb⟩
  rw [ho]
  replace HB := Lib.hid (belowNext HB.out hb)
  replace HX := Lib.hid (HX.out.below hb HX.out.1)
  clear hb
  have x0 := HX.out.of 0 _ rfl
  have x1 := HX.out.of 1 _ rfl
  have x2 := HX.out.of 2 _ rfl
  have x3 := HX.out.of 3 _ rfl
  have x4 := HX.out.of 4 _ rfl
  have x5 := HX.out.of 5 _ rfl
  have x6 := HX.out.of 6 _ rfl
  have hz : w.heap.size < w1.heap.size := HX.out.1
  have t1 : (o.kind == 1) = true := by rw [HK.out]; rfl
  go_wp2
  go_ret2
  exact ⟨rfl, HB.out.alloc (Nat.le_of_lt hz) _⟩

set_option maxRecDepth 100000 in
set_option maxHeartbeats 2000000 in
theorem actionOf_2 (w : World) (o : Op) (ho : opB o = true) (hk : o.kind = 2) :
    Calls Tryz.prog 46 #[opV o] w fun e w' => e = .returned (.tuple #[.iface 124 (opV o), .bool true]) ∧ Below w.heap.size w w' := by
  have HK := Lib.hid hk
  clear hk
  have HB := Lib.hid (belowOne w (.cells #[.int .i64 o.kind, .int .i64 o.who, .int .i64 o.inn, .int .i64 o.code, .int .i64 o.sec, .int .i64 o.fam, .int .i64 o.gen] 25))
  have HX := Lib.hid (Held.new w #[.int .i64 o.kind, .int .i64 o.who, .int .i64 o.inn, .int .i64 o.code, .int .i64 o.sec, .int .i64 o.fam, .int .i64 o.gen] 25)
  go_enter Tryz.func46, Tryz.ntmps46
  go_wp2_with fail
  refine (implOpOk_any _ _).mono ?_
  rintro e w1 ⟨rfl, hb⟩
  rw [ho]
  replace HB := Lib.hid (belowNext HB.out hb)
  replace HX := Lib.hid (HX.out.below hb HX.out.1)
  clear hb
  have x0 := HX.out.of 0 _ rfl
  have x1 := HX.out.of 1 _ rfl
  have x2 := HX.out.of 2 _ rfl
  have x3 := HX.out.of 3 _ rfl
  have x4 := HX.out.of 4 _ rfl
  have x5 := HX.out.of 5 _ rfl
  have x6 := HX.out.of 6 _ rfl
  have hz : w.heap.size < w1.heap.size := HX.out.1
  have f1 : (o.kind == 1) = false := by rw [HK.out]; rfl
  have t2 : (o.kind == 2) = true := by rw [HK.out]; rfl
  go_wp2
  go_ret2
  exact ⟨rfl, HB.out.alloc (Nat.le_of_lt hz) _⟩

set_option maxRecDepth 100000 in
set_option maxHeartbeats 2000000 in
theorem actionOf_3 (w : World) (o : Op) (ho : opB o = true) (hk : o.kind = 3) :
    Calls Tryz.prog 46 #[opV o] w fun e w' => e = .returned (.tuple #[.iface 127 (opV o), .bool true]) ∧ Below w.heap.size w w' := by
  have HK := Lib.hid hk
  clear hk
  have HB := Lib.hid (belowOne w (.cells #[.int .i64 o.kind, .int .i64 o.who, .int .i64 o.inn, .int .i64 o.code, .int .i64 o.sec, .int .i64 o.fam, .int .i64 o.gen] 25))
  have HX := Lib.hid (Held.new w #[.int .i64 o.kind, .int .i64 o.who, .int .i64 o.inn, .int .i64 o.code, .int .i64 o.sec, .int .i64 o.fam, .int .i64 o.gen] 25)
  go_enter Tryz.func46, Tryz.ntmps46
  go_wp2_with fail
  refine (implOpOk_any _ _).mono ?_
  rintro e w1 ⟨rfl, hb⟩
  rw [ho]
  replace HB := Lib.hid (belowNext HB.out hb)
  replace HX := Lib.hid (HX.out.below hb HX.out.1)
  clear hb
  have x0 := HX.out.of 0 _ rfl
  have x1 := HX.out.of 1 _ rfl
  have x2 := HX.out.of 2 _ rfl
  have x3 := HX.out.of 3 _ rfl
  have x4 := HX.out.of 4 _ rfl
  have x5 := HX.out.of 5 _ rfl
  have x6 := HX.out.of 6 _ rfl
  have hz : w.heap.size < w1.heap.size := HX.out.1
  have f1 : (o.kind == 1) = false := by rw [HK.out]; rfl
  have f2 : (o.kind == 2) = false := by rw [HK.out]; rfl
  have t3 : (o.kind == 3) = true := by rw [HK.out]; rfl
  go_wp2
  go_ret2
  exact ⟨rfl, HB.out.alloc (Nat.le_of_lt hz) _⟩

set_option maxRecDepth 100000 in
set_option maxHeartbeats 2000000 in
theorem actionOf_4 (w : World) (o : Op) (ho : opB o = true) (hk : o.kind = 4) :
    Calls Tryz.prog 46 #[opV o] w fun e w' => e = .returned (.tuple #[.iface 128 (opV o), .bool true]) ∧ Below w.heap.size w w' := by
  have HK := Lib.hid hk
  clear hk
  have HB := Lib.hid (belowOne w (.cells #[.int .i64 o.kind, .int .i64 o.who, .int .i64 o.inn, .int .i64 o.code, .int .i64 o.sec, .int .i64 o.fam, .int .i64 o.gen] 25))
  have HX := Lib.hid (Held.new w #[.int .i64 o.kind, .int .i64 o.who, .int .i64 o.inn, .int .i64 o.code, .int .i64 o.sec, .int .i64 o.fam, .int .i64 o.gen] 25)
  go_enter Tryz.func46, Tryz.ntmps46
  go_wp2_with fail
  refine (implOpOk_any _ _).mono ?_
  rintro e w1 ⟨rfl, hb⟩
  rw [ho]
  replace HB := Lib.hid (belowNext HB.out hb)
  replace HX := Lib.hid (HX.out.below hb HX.out.1)
  clear hb
  have x0 := HX.out.of 0 _ rfl
  have x1 := HX.out.of 1 _ rfl
  have x2 := HX.out.of 2 _ rfl
  have x3 := HX.out.of 3 _ rfl
  have x4 := HX.out.of 4 _ rfl
  have x5 := HX.out.of 5 _ rfl
  have x6 := HX.out.of 6 _ rfl
  have hz : w.heap.size < w1.heap.size := HX.out.1
  have f1 : (o.kind == 1) = false := by rw [HK.out]; rfl
  have f2 : (o.kind == 2) = false := by rw [HK.out]; rfl
  have f3 : (o.kind == 3) = false := by rw [HK.out]; rfl
  have t4 : (o.kind == 4) = true := by rw [HK.out]; rfl
  go_wp2
  go_ret2
  exact ⟨rfl, HB.out.alloc (Nat.le_of_lt hz) _⟩

set_option maxRecDepth 100000 in
set_option maxHeartbeats 2000000 in
theorem actionOf_5 (w : World) (o : Op) (ho : opB o = true) (hk : o.kind = 5) :
    Calls Tryz.prog 46 #[opV o] w fun e w' => e = .returned (.tuple #[.iface 129 (opV o), .bool true]) ∧ Below w.heap.size w w' := by
  have HK := Lib.hid hk
  clear hk
  have HB := Lib.hid (belowOne w (.cells #[.int .i64 o.kind, .int .i64 o.who, .int .i64 o.inn, .int .i64 o.code, .int .i64 o.sec, .int .i64 o.fam, .int .i64 o.gen] 25))
  have HX := Lib.hid (Held.new w #[.int .i64 o.kind, .int .i64 o.who, .int .i64 o.inn, .int .i64 o.code, .int .i64 o.sec, .int .i64 o.fam, .int .i64 o.gen] 25)
  go_enter Tryz.func46, Tryz.ntmps46
  go_wp2_with fail
  refine (implOpOk_any _ _).mono ?_
  rintro e w1 ⟨rfl, hb⟩
  rw [ho]
  replace HB := Lib.hid (belowNext HB.out hb)
  replace HX := Lib.hid (HX.out.below hb HX.out.1)
  clear hb
  have x0 := HX.out.of 0 _ rfl
  have x1 := HX.out.of 1 _ rfl
  have x2 := HX.out.of 2 _ rfl
  have x3 := HX.out.of 3 _ rfl
  have x4 := HX.out.of 4 _ rfl
  have x5 := HX.out.of 5 _ rfl
  have x6 := HX.out.of 6 _ rfl
  have hz : w.heap.size < w1.heap.size := HX.out.1
  have f1 : (o.kind == 1) = false := by rw [HK.out]; rfl
  have f2 : (o.kind == 2) = false := by rw [HK.out]; rfl
  have f3 : (o.kind == 3) = false := by rw [HK.out]; rfl
  have f4 : (o.kind == 4) = false := by rw [HK.out]; rfl
  have t5 : (o.kind == 5) = true := by rw [HK.out]; rfl
  go_wp2
  go_ret2
  exact ⟨rfl, HB.out.alloc (Nat.le_of_lt hz) _⟩

theorem opK_kind {o : Op} (ho : opB o = true) : o.kind = 1 ∨ o.kind = 2 ∨ o.kind = 3 ∨ o.kind = 4 ∨ o.kind = 5 := by
  simp only [opB, Bool.and_eq_true] at ho
  obtain ⟨-, -, -, -, -, -, g⟩ := ho
  unfold opK at g
  by_cases h1 : o.kind = 1
  · exact .inl h1
  by_cases h2 : o.kind = 2
  · exact .inr (.inl h2)
  by_cases h3 : o.kind = 3
  · exact .inr (.inr (.inl h3))
  by_cases h4 : o.kind = 4
  · exact .inr (.inr (.inr (.inl h4)))
  by_cases h5 : o.kind = 5
  · exact .inr (.inr (.inr (.inr h5)))
  simp [h1, h2, h3, h4, h5] at g
theorem actionOf_yes (w : World) (o : Op) (ho : opB o = true) :
    Calls Tryz.prog 46 #[opV o] w fun e w' => e = .returned (.tuple #[.iface (actT o.kind) (opV o), .bool true]) ∧ Below w.heap.size w w' := by
  rcases opK_kind ho with hk | hk | hk | hk | hk
  · have h : actT o.kind = 122 := by rw [hk]; rfl
    rw [h]; exact actionOf_1 w o ho hk
  · have h : actT o.kind = 124 := by rw [hk]; rfl
    rw [h]; exact actionOf_2 w o ho hk
  · have h : actT o.kind = 127 := by rw [hk]; rfl
    rw [h]; exact actionOf_3 w o ho hk
  · have h : actT o.kind = 128 := by rw [hk]; rfl
    rw [h]; exact actionOf_4 w o ho hk
  · have h : actT o.kind = 129 := by rw [hk]; rfl
    rw [h]; exact actionOf_5 w o ho hk

end Go.Proofs.YtecdibpiojgppaaGreat
