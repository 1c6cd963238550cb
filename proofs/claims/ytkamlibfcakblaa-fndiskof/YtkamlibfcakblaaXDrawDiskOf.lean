/- What DrawDiskOf draws: a place's notes, and a number from -1 to 5. -/
import Derived.Test.YtkamlibfcakblaaXDrawDisk
import Derived.Test.YtkamlibfcakblaaXDrawOpen
import Derived.Test.YtkamlibfcakblaaXDrawKey
namespace Go.Proofs.Ytkamlibfcakblaa
open Go.RowKit

/-- What DrawDiskOf leaves. -/
def DrewDO (w : World) (e : Ending) (w' : World) : Prop :=
  ∃ cs x k, e = .returned (.tuple #[.agg (List.toArray cs), .int .i64 k]) ∧ FewD 121 x ∧ -1 ≤ k ∧ k < 6 ∧ diskSh.own w' (fun b => w.heap.size ≤ b ∧ b < w'.heap.size) cs x ∧ Below w.heap.size w w'

set_option maxRecDepth 100000 in
set_option maxHeartbeats 4000000 in
theorem drawDiskOf_any (w : World) (v : Value) (n : Nat) (hv : Code8 w v n) : Calls Try.prog 12 #[v] w (DrewDO w) := by
  have HV := Lib.hid (hv.below (belowOne w (.cells #[.slice none 0 0, .int .i64 0] 25)))
  have HH := Lib.hid (Held.new w #[.slice none 0 0, .int .i64 0] 25)
  clear hv
  go_enter Try.func12, Try.ntmps12
  go_wp2_with fail
  refine (l20Open_any _ _ _ HV.out).mono ?_
  rintro e w1 ⟨rfl, hr, hb1⟩
  have HH1 := Lib.hid (HH.out.below hb1 HH.out.1)
  have HB1 := Lib.hid (belowNext (belowOne _ _) hb1)
  simp only [allocSize] at hr
  obtain ⟨g, hg⟩ : ∃ g, w.heap.size + 1 = g := ⟨_, rfl⟩
  rw [hg] at hr
  have hqg : w.heap.size < g := by omega
  have HR := Lib.hid (show Rds w1 g 0 from ⟨0, by omega, by omega, hr⟩)
  clear hr hb1 HH HV
  simp only [allocSize, hg]
  go_wp2_with fail
  refine (l20Disk_any _ g _ _ HR.out (by omega) (by omega) (by omega)).mono ?_
  rintro e w2 ⟨cs, x, rfl, hfd, ho, hd⟩
  obtain ⟨uu, rfl, hu⟩ := disk_own.1 ho
  obtain ⟨A1, c1, rfl, -, -⟩ := hu.row.form
  have HR2 := Lib.hid hd.1
  have HO2 := Lib.hid ho
  have hg1 : g < w1.heap.size := HR.out.lt
  have HH2 := Lib.hid (HH1.out.outs (Outs.of_grown (S := fun k => k = g) hd.2 (fun k e => (Option.some.inj e).symm)) (by omega))
  have HB2 := Lib.hid (HB1.out.grown hd.2 HB1.out.size (fun k e => by have := Option.some.inj e; omega))
  have HZ2 := Lib.hid hd.2.size
  clear hd ho hu
  go_wp2_with fail
  refine (pick_rds _ g _ _ HR2.out (by omega) (by omega)).mono ?_
  rintro e w3 ⟨m, rfl, hm0, hm1, hd⟩
  have hm6 : m < 7 := hm1 (by omega)
  have HO3 := Lib.hid (diskSh.okeep HO2.out (w' := w3) fun b hb hlt => hd.2.block b hlt fun e => by have := Option.some.inj e; have := hb.1; omega)
  have HH3 := Lib.hid (HH2.out.outs (Outs.of_grown (S := fun k => k = g) hd.2 (fun k e => (Option.some.inj e).symm)) (by omega))
  have HB3 := Lib.hid (HB2.out.grown hd.2 HB2.out.size (fun k e => by have := Option.some.inj e; omega))
  have HZ3 := Lib.hid hd.2.size
  clear hd hm1 HR HR2 HO2
  have x0 := HH3.out.of 0 _ rfl
  have x1 := HH3.out.of 1 _ rfl
  have xf := HH3.out.2.1
  have hwm : IntKind.i64.wrap (m - 1) = m - 1 := IntWalk.i64_in _ (by omega)
  go_wp2
  have HQ := HH3.out.put2 (.slice A1 x.notes.length c1) (.int .i64 x.safe)
  have q0 := HQ.of 0 _ rfl
  have q1 := HQ.of 1 _ rfl
  refine bodyPost_ret (v := .tuple #[.agg #[.slice A1 x.notes.length c1, .int .i64 x.safe], .int .i64 (m - 1)]) (by simp only [results, Try.results12, go_sem]; simp [go_sem, q0, q1]) rfl ⟨[.slice A1 x.notes.length c1, .int .i64 x.safe], x, m - 1, rfl, hfd, by omega, by omega, diskSh.omono (diskSh.okeep HO3.out (fun b hb _ => put2_far _ _ _ _ (by have := hb.1; omega))) (fun b hb => ⟨by have := hb.1; omega, by rw [put2_size]; exact Nat.lt_of_lt_of_le hb.2 HZ3.out⟩), belowPut2 HB3.out w.heap.size (Nat.le_refl _) _ _⟩

end Go.Proofs.Ytkamlibfcakblaa
