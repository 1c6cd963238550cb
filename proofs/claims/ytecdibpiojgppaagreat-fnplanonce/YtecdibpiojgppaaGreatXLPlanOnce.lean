/- The walk of FnPlanOnce. By gdgen.py. -/
import Derived.Test.YtecdibpiojgppaaGreatXDrawGloDo
import Derived.Test.YtecdibpiojgppaaGreatXGlo
import Derived.Test.YtecdibpiojgppaaGreatXPlanLaw2
namespace Go.Proofs.YtecdibpiojgppaaGreat
open Go.RowKit

theorem once_small {xs : List Sto} {a b c : List Item} (hx : xs = [⟨a⟩, ⟨b⟩, ⟨c⟩]) (hg : gloB [⟨a⟩, ⟨b⟩, ⟨c⟩] = true) (hl : ∀ x ∈ xs, x.items.length ≤ 13 ∨ x.items.length = 41) : a.length ≤ 13 ∧ b.length ≤ 13 ∧ c.length ≤ 13 := by
  obtain ⟨g1, g2, g3⟩ := gloB_parts hg
  have l1 := (stoB_three (plc_parts g1).1).1
  have l2 := (stoB_three (plc_parts g2).1).1
  have l3 := (stoB_three (plc_parts g3).1).1
  have m1 : a.length ≤ 13 ∨ a.length = 41 := hl ⟨a⟩ (by rw [hx]; simp)
  have m2 : b.length ≤ 13 ∨ b.length = 41 := hl ⟨b⟩ (by rw [hx]; simp)
  have m3 : c.length ≤ 13 ∨ c.length = 41 := hl ⟨c⟩ (by rw [hx]; simp)
  omega

set_option maxRecDepth 100000 in
set_option maxHeartbeats 20000000 in
theorem lawPlanOnce_any (w : World) (v : Value) (n : Nat) (hv : Code8 w v n) :
    Calls Tryz.prog 3 #[v] w fun e w' => e = .returned (.bool true) ∧ Below w.heap.size w w' := by
  have HV := Lib.hid hv
  obtain ⟨A, c, f, rfl, h1, h2, -, -⟩ := hv
  unfold maxLen at h2
  by_cases hn : 1048576 < n
  · have hn' : (1048576 : Int) < (n : Int) := by omega
    go_enter Tryz.func3, Tryz.ntmps3
    go_wp2
    go_ret
    exact ⟨rfl, Below.refl _ _⟩
  have hn' : (n : Int) ≤ 1048576 := by omega
  clear hn
  go_enter Tryz.func3, Tryz.ntmps3
  go_wp2_with fail
  refine (drawGloDo_any _ _ n HV.out).mono ?_
  rintro e w1 ⟨u, xs, tx, o, rfl, hxl, hxi, t0, t1, hrow, hb1⟩
  obtain ⟨Al, cl, hlf, -, -⟩ := hrow.form
  rw [hxl] at hlf
  subst hlf
  have HB := Lib.hid (belowNext hb1 (belowOne w1 (.cells #[.int .i64 o.kind, .int .i64 o.who, .int .i64 o.inn, .int .i64 o.code, .int .i64 o.sec, .int .i64 o.fam, .int .i64 o.gen] 25)))
  have HR := Lib.hid ((hrow.below (belowOne w1 (.cells #[.int .i64 o.kind, .int .i64 o.who, .int .i64 o.inn, .int .i64 o.code, .int .i64 o.sec, .int .i64 o.fam, .int .i64 o.gen] 25))).more (belowOne w1 (.cells #[.int .i64 o.kind, .int .i64 o.who, .int .i64 o.inn, .int .i64 o.code, .int .i64 o.sec, .int .i64 o.fam, .int .i64 o.gen] 25)).size)
  have HO := Lib.hid (Held.new w1 #[.int .i64 o.kind, .int .i64 o.who, .int .i64 o.inn, .int .i64 o.code, .int .i64 o.sec, .int .i64 o.fam, .int .i64 o.gen] 25)
  have HXI := Lib.hid hxi
  clear hrow hb1 HV hxi
  unfold opV
  obtain ⟨q0, q1, q2, q3, q4, q5, q6⟩ := HO.out.seven
  go_wp2_with fail
  clear q0 q1 q2 q3 q4 q5 q6
  refine (implGloDo_any _ _ xs HR.out tx o).mono ?_
  rintro e w2 ⟨ux, rfl, hx, hb⟩
  obtain ⟨ys, ok, hR⟩ : ∃ ys ok, gloDo xs tx o = (ys, ok) := ⟨_, _, rfl⟩
  rw [hR] at hx ⊢
  dsimp only at hx ⊢
  have HRe := Lib.hid hR
  obtain ⟨Ax, cx, hxf, -, -⟩ := hx.row.form
  subst hxf
  replace HB := Lib.hid (belowNext HB.out hb)
  replace HR := Lib.hid ((HR.out.below hb).more hb.size)
  replace HO := Lib.hid (HO.out.below hb HO.out.1)
  have HX := Lib.hid hx.row
  clear hb hx hR
  obtain ⟨q0, q1, q2, q3, q4, q5, q6⟩ := HO.out.seven
  go_wp2_with fail
  clear q0 q1 q2 q3 q4 q5 q6
  refine (specGloDo_any _ _ xs HR.out tx o).mono ?_
  rintro e w3 ⟨us, rfl, hs, hb⟩
  rw [HRe.out] at hs ⊢
  dsimp only at hs ⊢
  obtain ⟨As, cs, hsf, -, -⟩ := hs.row.form
  subst hsf
  replace HB := Lib.hid (belowNext HB.out hb)
  replace HR := Lib.hid ((HR.out.below hb).more hb.size)
  replace HO := Lib.hid (HO.out.below hb HO.out.1)
  replace HX := Lib.hid ((HX.out.below hb).more hb.size)
  have HS := Lib.hid (lsto_row.1 hs.row)
  clear hb hs
  have hself : (ok != ok) = false := by simp
  go_wp2_with fail
  refine (jaStos_same _ _ _ ys HX.out HS.out).mono ?_
  rintro e w4 ⟨rfl, hb⟩
  replace HB := Lib.hid (belowNext HB.out hb)
  replace HR := Lib.hid ((HR.out.below hb).more hb.size)
  replace HO := Lib.hid (HO.out.below hb HO.out.1)
  replace HX := Lib.hid ((HX.out.below hb).more hb.size)
  clear hb HS
  cases ok with
  | false =>
    clear HX HR HXI hself
    have q0 := HO.out.of 0 _ rfl
    go_wp2_with fail
    refine (jaOk_any _).mono ?_
    rintro e wz ⟨rfl, hb⟩
    have HBz := Lib.hid (belowNext HB.out hb)
    clear hb
    go_wp2
    go_ret
    exact ⟨rfl, HBz.out⟩
  | true =>
    clear hself HR
    have h2 : (gloDo xs tx o).2 = true := by rw [HRe.out]
    obtain ⟨a, b, c, hxs, hg, ho, ht, hmay, -⟩ := glo_yes h2
    have hl38 : ∀ x ∈ xs, x.items.length ≤ 38 := by
      obtain ⟨l1, l2, l3⟩ := once_small hxs hg HXI.out
      rw [hxs]
      intro x hx
      simp only [List.mem_cons, List.not_mem_nil, or_false] at hx
      rcases hx with rfl | rfl | rfl
      · show a.length ≤ 38; omega
      · show b.length ≤ 38; omega
      · show c.length ≤ 38; omega
    obtain ⟨tt0, tt1⟩ := inB_parts ht
    obtain ⟨t, rfl⟩ := Int.eq_ofNat_of_zero_le tt0
    obtain ⟨m, hm⟩ : ∃ m : Nat, ((t : Int) + 1) % 30 = (m : Int) := ⟨(t + 1) % 30, by omega⟩
    have hm30 : m < 30 := by omega
    have hs0 := once_tx hl38 h2
    have ho0 := fun hk : o.kind ≠ 4 => once_other hl38 h2 (tx' := (m : Int)) (inB_yes (by omega) (by omega)) hk
    rw [HRe.out] at hs0 ho0
    have HSame := Lib.hid (show (gloDo ys (t : Int) o).2 = false from hs0)
    have HOth := Lib.hid (show o.kind ≠ 4 → (gloDo ys (m : Int) o).2 = false from ho0)
    clear hs0 ho0 hl38 hxs hg ho ht hmay h2 HXI HRe
    obtain ⟨q0, q1, q2, q3, q4, q5, q6⟩ := HO.out.seven
    go_wp2_with fail
    clear q0 q1 q2 q3 q4 q5 q6
    refine (implGloDo_any _ _ ys HX.out (m : Int) o).mono ?_
    rintro e w5 ⟨uz, rfl, hz, hb⟩
    obtain ⟨zs, again, hR2⟩ : ∃ zs ok, gloDo ys (m : Int) o = (zs, ok) := ⟨_, _, rfl⟩
    rw [hR2] at hz ⊢
    dsimp only at hz ⊢
    have HA := Lib.hid (show o.kind ≠ 4 → again = false by intro hk; have h := HOth.out hk; rw [hR2] at h; exact h)
    obtain ⟨Az, cz, hzf, -, -⟩ := hz.row.form
    subst hzf
    replace HB := Lib.hid (belowNext HB.out hb)
    replace HO := Lib.hid (HO.out.below hb HO.out.1)
    replace HX := Lib.hid ((HX.out.below hb).more hb.size)
    clear hb hz hR2 HOth
    obtain ⟨q0, q1, q2, q3, q4, q5, q6⟩ := HO.out.seven
    go_wp2_with fail
    clear q0 q1 q2 q3 q4 q5 q6
    refine (implGloDo_any _ _ ys HX.out (t : Int) o).mono ?_
    rintro e w6 ⟨us, rfl, hs, hb⟩
    obtain ⟨ss, same, hR3⟩ : ∃ zs ok, gloDo ys (t : Int) o = (zs, ok) := ⟨_, _, rfl⟩
    rw [hR3] at hs ⊢
    dsimp only at hs ⊢
    obtain rfl : same = false := by have h := HSame.out; rw [hR3] at h; exact h
    obtain ⟨As, cs, hsf, -, -⟩ := hs.row.form
    subst hsf
    replace HB := Lib.hid (belowNext HB.out hb)
    replace HO := Lib.hid (HO.out.below hb HO.out.1)
    clear hb hs hR3 HX HSame
    have q0 := HO.out.of 0 _ rfl
    by_cases hk : o.kind = 4
    · have e4 : (o.kind == 4) = true := by simp [hk]
      clear hk HA
      go_wp2
      go_ret
      exact ⟨rfl, HB.out⟩
    · have e4 : (o.kind == 4) = false := by simp [hk]
      have ha := HA.out hk
      subst ha
      clear hk HA
      go_wp2
      go_ret
      exact ⟨rfl, HB.out⟩

end Go.Proofs.YtecdibpiojgppaaGreat
