/- The model's DiskFall. -/
import Derived.Test.YtllmmhibmgpehaaXL2Copy
namespace Go.Proofs.Ytllmmhibmgpehaa
open Go.RowKit

set_option maxRecDepth 100000 in
set_option maxHeartbeats 2000000 in
theorem specDiskFall_any (w : World) (cs : List Value) (x : Disk) (keep : Int) (h : diskSh.rel w w.heap.size cs x) :
    Calls Try.prog 30 #[.agg cs.toArray, .int .i64 keep] w (DiskMade (fallD x keep) w) := by
  have HV := Lib.hid fun W (hb : Below w.heap.size w W) => diskSh.rmore (diskSh.rbelow h hb) hb.size
  obtain ⟨u, rfl, hu⟩ := disk_rel.1 h
  obtain ⟨Au, cu, rfl, hcu, hlu⟩ := hu.form
  unfold maxLen at hcu
  have HU := Lib.hid fun W (hb : Below w.heap.size w W) => (hu.below hb).more hb.size
  have HB := Lib.hid (belowTwo w (.cells #[.slice Au x.notes.length cu, .int .i64 x.safe] 45) (.cells #[.slice none 0 0, .int .i64 0] 45))
  have HX := Lib.hid ((Held.new w #[.slice Au x.notes.length cu, .int .i64 x.safe] 45).after (.cells #[.slice none 0 0, .int .i64 0] 45))
  have HR := Lib.hid (show Held ((w.alloc (.cells #[.slice Au x.notes.length cu, .int .i64 x.safe] 45)).alloc (.cells #[.slice none 0 0, .int .i64 0] 45)) (w.heap.size + 1) [.slice none 0 0, .int .i64 0] from by have h := Held.new (w.alloc (.cells #[.slice Au x.notes.length cu, .int .i64 x.safe] 45)) #[.slice none 0 0, .int .i64 0] 45; rwa [allocSize] at h)
  clear h hu
  go_enter Try.func30, Try.ntmps30
  go_wp2_with fail
  refine (specDiskOk_any _ _ x (HV.out _ HB.out)).mono ?_
  rintro e w1 ⟨rfl, hb⟩
  replace HB := Lib.hid (belowNext HB.out hb)
  replace HX := Lib.hid (HX.out.below hb HX.out.1)
  replace HR := Lib.hid (HR.out.below hb HR.out.1)
  clear hb
  cases hd : diskB x with
  | false =>
    have HE := Lib.hid (fallD_no (k := keep) hd)
    clear hd
    have r0 := HR.out.of 0 _ rfl
    have r1 := HR.out.of 1 _ rfl
    have rf := HR.out.2.1
    go_wp2
    have HQ := HR.out.put2 (.slice none 0 0) (.int .i64 0)
    have q0 := HQ.of 0 _ rfl
    have q1 := HQ.of 1 _ rfl
    refine bodyPost_ret (v := .agg #[.slice none 0 0, .int .i64 0]) (by simp only [results, Try.results30, go_sem]; simp [go_sem, q0, q1]) rfl ⟨_, rfl, by rw [HE.out]; exact disk_own.2 ⟨_, rfl, Sh.Own.nil _ _⟩, belowPut2 HB.out (w.heap.size + 1) (by omega) _ _⟩
  | true =>
    obtain ⟨hl, hall⟩ := diskB_small hd
    obtain ⟨-, hs0, hs1, -⟩ := diskB_parts hd
    obtain ⟨hk1, hk2⟩ := leftD_le (k := keep) hd
    obtain ⟨m, hm⟩ : ∃ m, leftD x keep = m := ⟨_, rfl⟩
    have HE := Lib.hid (fallD_yes (k := keep) hd)
    rw [hm] at hk1 hk2 HE
    have HSm := Lib.hid fun (n : Note) (hn : n ∈ x.notes.take m) => smallN (hall n (List.mem_of_mem_take hn))
    clear hd hall hm
    have x0 := HX.out.of 0 _ rfl
    have x1 := HX.out.of 1 _ rfl
    go_wp2_with fail
    have hk3 : x.safe + max 0 (min keep ((x.notes.length : Int) - x.safe)) = (m : Int) := by omega
    have hcast : ((m : Nat) : Int).toNat = m := Int.toNat_natCast m
    rw [hk3]
    simp only [Int.toNat_natCast]
    clear x0 x1
    have HL0 := Lib.hid (disk_rel (x := ⟨x.notes.take m, 0⟩).2 ⟨.slice Au m cu, rfl, Sh.Row.take (HU.out _ HB.out) rfl hk1⟩)
    refine (l2Copy_any _ _ ⟨x.notes.take m, 0⟩ HL0.out (by show (x.notes.take m).length ≤ _; rw [List.length_take]; omega) HSm.out).mono ?_
    rintro e w2 ⟨cs2, rfl, ho2, hb⟩
    obtain ⟨u2, rfl, hu2⟩ := disk_own.1 ho2
    obtain ⟨A2, c2, hf2, -, -⟩ := hu2.row.form
    have hlm : (x.notes.take m).length = m := by rw [List.length_take, Nat.min_eq_left hk1]
    have hf2' : u2 = .slice A2 (x.notes.take m).length c2 := hf2
    rw [hlm] at hf2'
    subst hf2'
    have hw1 : w.heap.size + 1 < w1.heap.size := HR.out.1
    have hz2 := hb.size
    have HC := Lib.hid (Held.new w2 #[.slice A2 m c2, .int .i64 0] 45)
    have HC9 := Lib.hid (Held.new w2 #[.slice A2 m c2, .int .i64 (m : Int)] 45)
    have HO9 := Lib.hid (Sh.Own.below (w' := w2.alloc (.cells #[.slice A2 m c2, .int .i64 (m : Int)] 45)) hu2 (belowOne w2 _))
    have HB9 := Lib.hid ((belowNext HB.out hb).alloc (belowNext HB.out hb).size (.cells #[.slice A2 m c2, .int .i64 (m : Int)] 45))
    have HR9 := Lib.hid ((HR.out.below hb HR.out.1).after (.cells #[.slice A2 m c2, .int .i64 (m : Int)] 45))
    have HR0 := Lib.hid ((HR.out.below hb HR.out.1).after (.cells #[.slice A2 m c2, .int .i64 0] 45))
    clear hb ho2 hu2 hf2 hlm HX hk2 hk3 hcast HB HR
    have hne : ¬ w.heap.size + 1 = w2.heap.size := by omega
    have c0 := HC.out.of 0 _ rfl
    have c1 := HC.out.of 1 _ rfl
    have cf := HC.out.2.1
    have d0 := HC9.out.of 0 _ rfl
    have d1 := HC9.out.of 1 _ rfl
    have s0 := HR9.out.of 0 _ rfl
    have s1 := HR9.out.of 1 _ rfl
    have sf := HR9.out.2.1
    dsimp only
    go_wp2
    have HQ := HR9.out.put2 (.slice A2 m c2) (.int .i64 (m : Int))
    have q0 := HQ.of 0 _ rfl
    have q1 := HQ.of 1 _ rfl
    refine bodyPost_ret (v := .agg #[.slice A2 m c2, .int .i64 (m : Int)]) (by simp only [results, Try.results30, go_sem]; simp [go_sem, q0, q1]) rfl ⟨_, rfl, ?_, belowPut2 HB9.out (w.heap.size + 1) (by omega) _ _⟩
    rw [HE.out]
    refine disk_own.2 ⟨_, rfl, (own_put2 HO9.out (fun b hb => by have := hb.1; omega) _ _).mono fun b hb => ⟨by have := hb.1; omega, ?_⟩⟩
    rw [put2_size, allocSize]
    have h1 := hb.2
    omega

end Go.Proofs.Ytllmmhibmgpehaa
