/- The program's DiskFall. -/
import Derived.Test.YtkamlibfcakblaaXDiskAddI
namespace Go.Proofs.Ytkamlibfcakblaa
open Go.RowKit

set_option maxRecDepth 100000 in
set_option maxHeartbeats 2000000 in
theorem implDiskFall_any (w : World) (cs : List Value) (x : Disk) (keep : Int) (h : diskSh.rel w w.heap.size cs x) :
    Calls Try.prog 31 #[.agg cs.toArray, .int .i64 keep] w (DiskMade (fallD x keep) w) := by
  have HV := Lib.hid fun W (hb : Below w.heap.size w W) => diskSh.rmore (diskSh.rbelow h hb) hb.size
  obtain ⟨u, rfl, hu⟩ := disk_rel.1 h
  obtain ⟨Au, cu, rfl, hcu, hlu⟩ := hu.form
  unfold maxLen at hcu
  have HU := Lib.hid fun W (hb : Below w.heap.size w W) => (hu.below hb).more hb.size
  have HB := Lib.hid (belowTwo w (.cells #[.slice Au x.notes.length cu, .int .i64 x.safe] 25) (.cells #[.slice none 0 0, .int .i64 0] 25))
  have HX := Lib.hid ((Held.new w #[.slice Au x.notes.length cu, .int .i64 x.safe] 25).after (.cells #[.slice none 0 0, .int .i64 0] 25))
  have HR := Lib.hid (show Held ((w.alloc (.cells #[.slice Au x.notes.length cu, .int .i64 x.safe] 25)).alloc (.cells #[.slice none 0 0, .int .i64 0] 25)) (w.heap.size + 1) [.slice none 0 0, .int .i64 0] from by have h := Held.new (w.alloc (.cells #[.slice Au x.notes.length cu, .int .i64 x.safe] 25)) #[.slice none 0 0, .int .i64 0] 25; rwa [allocSize] at h)
  clear h hu
  go_enter Try.func31, Try.ntmps31
  go_wp2_with fail
  refine (implDiskOk_any _ _ x (HV.out _ HB.out)).mono ?_
  rintro e w1 ⟨rfl, hb⟩
  replace HB := Lib.hid (belowNext HB.out hb)
  replace HX := Lib.hid (HX.out.below hb HX.out.1)
  replace HR := Lib.hid (HR.out.below hb HR.out.1)
  clear hb
  cases hd : diskB x with
  | false =>
    have HE := Lib.hid (fallD_no (k := keep) hd)
    clear hd
    have r0 := HR.out.of 0 _ rfl
    have r1 := HR.out.of 1 _ rfl
    have rf := HR.out.2.1
    go_wp2
    have HQ := HR.out.put2 (.slice none 0 0) (.int .i64 0)
    have q0 := HQ.of 0 _ rfl
    have q1 := HQ.of 1 _ rfl
    refine bodyPost_ret (v := .agg #[.slice none 0 0, .int .i64 0]) (by simp only [results, Try.results31, go_sem]; simp [go_sem, q0, q1]) rfl ⟨_, rfl, by rw [HE.out]; exact disk_own.2 ⟨_, rfl, Sh.Own.nil _ _⟩, belowPut2 HB.out (w.heap.size + 1) (by omega) _ _⟩
  | true =>
    obtain ⟨hl, hall⟩ := diskB_small hd
    obtain ⟨-, hs0, hs1, -⟩ := diskB_parts hd
    obtain ⟨hk1, hk2⟩ := leftD_le (k := keep) hd
    obtain ⟨m, hm⟩ : ∃ m, leftD x keep = m := ⟨_, rfl⟩
    have HE := Lib.hid (fallD_yes (k := keep) hd)
    rw [hm] at hk1 hk2 HE
    have HSm := Lib.hid fun (n : Note) (hn : n ∈ x.notes.take m) => smallN (hall n (List.mem_of_mem_take hn))
    clear hd hall hm
    have x0 := HX.out.of 0 _ rfl
    have x1 := HX.out.of 1 _ rfl
    go_wp2_with fail
    rw [← hk2]
    simp only [Int.toNat_natCast]
    clear x0 x1
    refine (listOf_any _ _ (x.notes.take m) (Sh.Row.take (HU.out _ HB.out) rfl hk1)).mono ?_
    rintro e w2 ⟨L, rfl, hRg, hb⟩
    have hw1 : w.heap.size + 1 < w1.heap.size := HR.out.1
    have hlp : (x.notes.take m).length ≤ 1000000 := by rw [List.length_take]; omega
    have HDk := Lib.hid (disk_any w2 w1.heap.size L (x.notes.take m) (m : Int) hRg hlp HSm.out)
    replace HB := Lib.hid (belowNext HB.out hb)
    replace HR := Lib.hid (HR.out.below hb HR.out.1)
    have hz2 := hb.size
    clear hb hRg hk2
    unfold ptr at HDk ⊢
    go_wp2_with fail
    refine HDk.out.mono ?_
    rintro e w3 ⟨cs3, rfl, ho3, hb⟩
    obtain ⟨u3, rfl, hu3⟩ := disk_own.1 ho3
    obtain ⟨A3, c3, hf3, -, -⟩ := hu3.row.form
    rw [List.length_take, Nat.min_eq_left hk1] at hf3
    subst hf3
    have HO := Lib.hid hu3
    replace HB := Lib.hid (belowNext HB.out hb)
    replace HR := Lib.hid (HR.out.below hb HR.out.1)
    clear hb ho3 hu3
    have r0 := HR.out.of 0 _ rfl
    have r1 := HR.out.of 1 _ rfl
    have rf := HR.out.2.1
    go_wp2
    have HQ := HR.out.put2 (.slice A3 m c3) (.int .i64 (m : Int))
    have q0 := HQ.of 0 _ rfl
    have q1 := HQ.of 1 _ rfl
    refine bodyPost_ret (v := .agg #[.slice A3 m c3, .int .i64 (m : Int)]) (by simp only [results, Try.results31, go_sem]; simp [go_sem, q0, q1]) rfl ⟨_, rfl, ?_, belowPut2 HB.out (w.heap.size + 1) (by omega) _ _⟩
    rw [HE.out]
    exact disk_own.2 ⟨_, rfl, (own_put2 HO.out (fun b hb => by have := hb.1; omega) _ _).mono fun b hb => ⟨by have := hb.1; omega, by rw [put2_size]; exact hb.2⟩⟩

end Go.Proofs.Ytkamlibfcakblaa
