/- The model's plans: going out. By spgen3.py, out of OutMay and OutMay2. -/
import Derived.Test.YtecdibpiojgppaaGreatXSPlan1
import Derived.Test.YtecdibpiojgppaaGreatXOutMay2
namespace Go.Proofs.YtecdibpiojgppaaGreat
open Go.RowKit

/-- What lies in memory while the model plans that one goes out: the store, the operation, the answer's block, the plan so far. -/
structure OutS (w0 : World) (pB : Nat) (o : Op) (v : Value) (L : List ByteArray) (M : List Wr) (ul uw : Value) (S1 S2 : Nat → Prop) (W : World) : Prop where
  op : Held W (w0.heap.size + 1) [.int .i64 o.kind, .int .i64 o.who, .int .i64 o.inn, .int .i64 o.code, .int .i64 o.sec, .int .i64 o.fam, .int .i64 o.gen]
  sto : Held W w0.heap.size [v]
  res : Held W (w0.heap.size + 1 + 1) [.bool false, .slice none 0 0, .slice none 0 0]
  bel : Below w0.heap.size w0 W
  pb : Held W pB [.bool true, ul, uw]
  lk : strSh.Own 9 W S1 ul L
  wr : wrSh.Own 77 W S2 uw M
  lo : w0.heap.size + 2 < pB
  s1 : ∀ b, S1 b → w0.heap.size + 2 < b ∧ b ≠ pB ∧ b < W.heap.size
  s2 : ∀ b, S2 b → w0.heap.size + 2 < b ∧ b ≠ pB ∧ b < W.heap.size
  ap : ∀ b, S1 b → ¬ S2 b
section
variable {w0 W W' : World} {pB : Nat} {o : Op} {v : Value} {L : List ByteArray} {M : List Wr} {ul uw : Value} {S1 S2 : Nat → Prop}
theorem OutS.call (h : OutS w0 pB o v L M ul uw S1 S2 W) (hb : Below W.heap.size W W') : OutS w0 pB o v L M ul uw S1 S2 W' :=
  ⟨h.op.below hb h.op.1, h.sto.below hb h.sto.1, h.res.below hb h.res.1, belowNext h.bel hb, h.pb.below hb h.pb.1, h.lk.below hb, h.wr.below hb, h.lo, fun b hb' => ⟨(h.s1 b hb').1, (h.s1 b hb').2.1, Nat.lt_of_lt_of_le (h.s1 b hb').2.2 hb.size⟩, fun b hb' => ⟨(h.s2 b hb').1, (h.s2 b hb').2.1, Nat.lt_of_lt_of_le (h.s2 b hb').2.2 hb.size⟩, h.ap⟩
theorem OutS.drewN (h : OutS w0 pB o v L M ul uw S1 S2 W) (n : Nat) : OutS w0 pB o v L M ul uw S1 S2 (W.drewN n) :=
  ⟨h.op, h.sto, h.res, belowDraws h.bel n, h.pb, h.lk, h.wr, h.lo, h.s1, h.s2, h.ap⟩
theorem OutS.drewOne (h : OutS w0 pB o v L M ul uw S1 S2 W) : OutS w0 pB o v L M ul uw S1 S2 W.drew :=
  ⟨h.op, h.sto, h.res, h.bel.drew, h.pb, h.lk, h.wr, h.lo, h.s1, h.s2, h.ap⟩
theorem OutS.own1 (h : OutS w0 pB o v L M ul uw S1 S2 W) : ∀ g, ul.ownBlock = some g → S1 g := by obtain ⟨_, _, _, h2, _⟩ := h.lk; exact h2
theorem OutS.own2 (h : OutS w0 pB o v L M ul uw S1 S2 W) : ∀ g, uw.ownBlock = some g → S2 g := by obtain ⟨_, _, _, h2, _⟩ := h.wr; exact h2
/-- One name more. -/
theorem OutS.lock (h : OutS w0 pB o v L M ul uw S1 S2 W) {u' : Value} {L' : List ByteArray} (hg : W.grownBy W' ul.ownBlock) (hu : strSh.Own 9 W' (fun b => S1 b ∨ b = W.heap.size) u' L') :
    OutS w0 pB o v L' M u' uw (fun b => (S1 b ∨ b = W.heap.size) ∧ b < W'.heap.size) S2 (W'.setCell ⟨pB, 1, none⟩ u') := by
  have hne : ∀ g, g ≤ w0.heap.size + 2 ∨ g = pB → ul.ownBlock ≠ some g := fun g hg' e => by have := h.s1 g (h.own1 g e); omega
  have hpz := h.pb.1
  have hlo := h.lo
  have e1 : ∀ b, S2 b → b < W.heap.size → W'.heap[b]? = W.heap[b]? := fun b hb hlt => hg.block b hlt fun e => h.ap b (h.own1 b e.symm) hb
  have hsz : ∀ u : Value, (W'.setCell ⟨pB, 1, none⟩ u).heap.size = W'.heap.size := fun u => by simp [World.setCell]
  refine ⟨(h.op.grown hg (hne _ (by omega))).far (by simp <;> omega) _, (h.sto.grown hg (hne _ (by omega))).far (by simp <;> omega) _, (h.res.grown hg (hne _ (by omega))).far (by simp <;> omega) _, ?_, (h.pb.grown hg (hne _ (by omega))).set_ (i := 1) u', ?_, ?_, h.lo, ?_, ?_, ?_⟩
  · exact (h.bel.grown hg h.bel.size (fun b hb => by have := h.s1 b (h.own1 b hb); omega)).setCell (p := ⟨pB, 1, none⟩) (by simp <;> omega) _
  · refine (hu.cap).keep fun b hb _ => Below.heap_setCell _ _ _ _ ?_
    rintro rfl
    rcases hb.1 with hb' | hb'
    · have := h.s1 _ hb'; simp at this <;> omega
    · first | omega | (simp at hb' <;> omega)
  · refine (h.wr.keep e1).keep fun b hb _ => Below.heap_setCell _ _ _ _ ?_
    rintro rfl
    have := h.s2 _ hb; simp at this <;> omega
  · rintro b ⟨hb | hb, hlt⟩
    · have := h.s1 b hb; rw [hsz]; omega
    · rw [hsz]; omega
  · intro b hb
    have := h.s2 b hb; have := hg.size; rw [hsz]; omega
  · rintro b ⟨hb | hb, -⟩ hb2
    · exact h.ap b hb hb2
    · have := h.s2 b hb2; omega
/-- One write more. -/
theorem OutS.write (h : OutS w0 pB o v L M ul uw S1 S2 W) {u' : Value} {M' : List Wr} {S' : Nat → Prop} (hS' : ∀ b, S' b → w0.heap.size + 2 < b ∧ b ≠ pB ∧ b < W.heap.size) (hd1 : ∀ b, S1 b → ¬ S' b) (hg : W.grownBy W' uw.ownBlock) (hu : wrSh.Own 77 W' (fun b => S2 b ∨ S' b ∨ b = W.heap.size) u' M') :
    OutS w0 pB o v L M' ul u' S1 (fun b => (S2 b ∨ S' b ∨ b = W.heap.size) ∧ b < W'.heap.size) (W'.setCell ⟨pB, 2, none⟩ u') := by
  have hne : ∀ g, g ≤ w0.heap.size + 2 ∨ g = pB → uw.ownBlock ≠ some g := fun g hg' e => by have := h.s2 g (h.own2 g e); omega
  have hpz := h.pb.1
  have hlo := h.lo
  have e1 : ∀ b, S1 b → b < W.heap.size → W'.heap[b]? = W.heap[b]? := fun b hb hlt => hg.block b hlt fun e => h.ap b hb (h.own2 b e.symm)
  have hsz : ∀ u : Value, (W'.setCell ⟨pB, 2, none⟩ u).heap.size = W'.heap.size := fun u => by simp [World.setCell]
  refine ⟨(h.op.grown hg (hne _ (by omega))).far (by simp <;> omega) _, (h.sto.grown hg (hne _ (by omega))).far (by simp <;> omega) _, (h.res.grown hg (hne _ (by omega))).far (by simp <;> omega) _, ?_, (h.pb.grown hg (hne _ (by omega))).set_ (i := 2) u', ?_, ?_, h.lo, ?_, ?_, ?_⟩
  · exact (h.bel.grown hg h.bel.size (fun b hb => by have := h.s2 b (h.own2 b hb); omega)).setCell (p := ⟨pB, 2, none⟩) (by simp <;> omega) _
  · refine (h.lk.keep e1).keep fun b hb _ => Below.heap_setCell _ _ _ _ ?_
    rintro rfl
    have := h.s1 _ hb; simp at this <;> omega
  · refine (hu.cap).keep fun b hb _ => Below.heap_setCell _ _ _ _ ?_
    rintro rfl
    rcases hb.1 with hb' | hb' | hb'
    · have := h.s2 _ hb'; simp at this <;> omega
    · have := hS' _ hb'; simp at this <;> omega
    · first | omega | (simp at hb' <;> omega)
  · intro b hb
    have := h.s1 b hb; have := hg.size; rw [hsz]; omega
  · rintro b ⟨hb | hb | hb, hlt⟩
    · have := h.s2 b hb; rw [hsz]; omega
    · have := hS' b hb; rw [hsz]; omega
    · rw [hsz]; omega
  · rintro b hb ⟨hb2 | hb2 | hb2, -⟩
    · exact h.ap b hb hb2
    · exact hd1 b hb hb2
    · have := h.s1 b hb; omega
end

theorem OutS.start {w0 W : World} {o : Op} {v : Value} (h : Ps3 w0 o v (.bool false) (.slice none 0 0) (.slice none 0 0) W) : OutS w0 (W.heap.size + 1) o v [keyN 117 o.who] [] (.slice (some ⟨W.heap.size, 0, none⟩) 1 1) (.slice none 0 0) (fun b => b = W.heap.size) (fun _ => False)
    ((W.alloc (.cells #[.string (keyN 117 o.who)] 9)).alloc (.cells #[.bool true, .slice (some ⟨W.heap.size, 0, none⟩) 1 1, .slice none 0 0] 41)) := by
  have hL := strs_lit W [keyN 117 o.who] #[.string (keyN 117 o.who)] rfl (by simp [keyN_max]) (by unfold maxLen; simp)
  have hP := Held.new (W.alloc (.cells #[.string (keyN 117 o.who)] 9)) #[.bool true, .slice (some ⟨W.heap.size, 0, none⟩) 1 1, .slice none 0 0] 41
  rw [alloc_size] at hP
  have hC := (h.call (belowOne W (.cells #[.string (keyN 117 o.who)] 9))).call (belowOne _ (.cells #[.bool true, .slice (some ⟨W.heap.size, 0, none⟩) 1 1, .slice none 0 0] 41))
  have hz := h.size
  exact ⟨hC.op, hC.sto, hC.pl, hC.bel, hP, hL.below (belowOne _ _), Sh.Own.nil _ _, by omega, fun b hb => by rw [alloc_size, alloc_size]; omega, fun b hb => hb.elim, fun b _ hb => hb⟩

set_option maxRecDepth 100000 in
set_option maxHeartbeats 2000000 in
theorem specOut_any (w : World) (o : Op) (v : Value) (its : List Item) (hv : Items w w.heap.size v its) (hs : stoB its = true) (ho : opB o = true) (hf : formB 2 its = true) :
    Calls Tryz.prog 111 #[.agg #[v], opV o] w (PlannedAg (mayP5 its o) w) := by
  obtain ⟨A, c, rfl, hc2, hc1⟩ := hv.form
  obtain ⟨b0, b1, b2, b3, b4, b5, b6, b7, b8, b9, b10, b11⟩ := opB_parts ho
  unfold maxLen at hc2
  have HV := Lib.hid hv
  have HF := Lib.hid (And.intro hs hf)
  have HS0 := Lib.hid (Ps3.start w o (.slice A its.length c))
  have HK := Lib.hid (keyN_dig 117 b1)
  have hds : (digS o.who).size ≤ 1 := Nat.le_of_eq (digS_size _)
  clear hv ho hs hf
  go_enter Tryz.func111, Tryz.ntmps111
  have o1 := HS0.out.op.of 1 _ rfl
  go_wp2_with fail
  clear o1
  refine (l3Digit_any _ _ b0 b1).mono ?_
  rintro e w1 ⟨rfl, hb⟩
  have HS1 := Lib.hid (HS0.out.call hb)
  clear hb HS0
  have HS := Lib.hid (OutS.start HS1.out)
  have hzp : w.heap.size + 1 + 1 < w1.heap.size := HS1.out.size.2.2
  clear HS1
  go_wp2_with fail
  rw [← HK.out]
  clear hds
  go_loopw [6] (fun i wr => ∃ (k : Nat) (ul uw : Value) (S1 S2 : Nat → Prop), k ≤ its.length ∧ i = .int .i64 k ∧ OutS w (w1.heap.size + 1) o (.slice A its.length c) (outL o its k) (outM o its k) ul uw S1 S2 wr) (fun i _ => its.length - (intOf i).toNat)
  case atStart => exact ⟨0, _, _, _, _, Nat.zero_le _, rfl, HS.out⟩
  case round =>
    obtain ⟨k, ul, uw, S1, S2, hk, rfl, hI⟩ := hrel
    have HI := Lib.hid hI
    clear hI HS
    by_cases hlt : k < its.length
    · obtain ⟨b, off, c', it, u, e1, hit, hB, hsz, ck, cu, hu⟩ := (HV.out.below HI.out.bel).at_ (k := k) hlt
      injection e1 with e1a e1b e1c
      subst e1a
      clear e1b e1c
      have HIt := Lib.hid hit
      obtain ⟨k2, k3, n1, n3, hnn⟩ := itemB_parts ((stoB_parts HF.out.1).2.1 k it hlt hit)
      have hform : itP 2 it.key it.val = true := by
        have h := HF.out.2
        unfold formB at h
        exact List.all_eq_true.1 h it (List.mem_of_getElem? hit)
      rw [itP2, decide_eq_true_iff] at hform
      obtain ⟨A', c'', rfl, d1, d2, hrow⟩ := hu
      obtain ⟨b', off', rfl, hb', hcell⟩ := hrow (by omega)
      have hzr : w.heap.size ≤ wr.heap.size := HI.out.bel.size
      have hbr : b' < wr.heap.size := by omega
      have hbr2 : b < wr.heap.size := by omega
      have v0 := hcell 0 (by omega)
      rw [Nat.add_zero] at v0
      have HC := Lib.hid hcell
      have h0 : 0 < it.key.size := by omega
      have HFb := Lib.hid (famB_eq (o := o) h0)
      obtain ⟨ch, hch⟩ : ∃ ch : Int, ((it.key[0]'h0).toNat : Int) = ch := ⟨_, rfl⟩
      have hc0 := (chr0_at h0).trans hch
      rw [hc0] at hform HFb
      have HFo := Lib.hid hform
      unfold maxLen at d2
      have o1 := HI.out.op.of 1 _ rfl
      have hzo : w.heap.size + 1 < wr.heap.size := HI.out.op.1
      have hzs : w.heap.size < wr.heap.size := HI.out.sto.1
      have s0 := HI.out.sto.of 0 _ rfl
      clear hcell hnn hrow hit hc0 hform
      by_cases h102 : ch = 102
      · subst h102
        have hl3 : it.val.length = 3 := by have := HFo.out; omega
        have l0 : 0 < it.val.length := by omega
        have l1 : 1 < it.val.length := by omega
        have l2 : 2 < it.val.length := by omega
        have l4 : (2 : Int) < (it.val.length : Int) := by omega
        have l5 : (1 : Int) < (it.val.length : Int) := by omega
        have v1 := HC.out 1 l1
        have v2 := HC.out 2 l2
        have HL3 := Lib.hid hl3
        clear hl3
        rcases e0 : (nth it.val 0 == o.who)
        · have g0 : (nth it.val 0 != o.who) = true := by simp only [bne, e0]; rfl
          have HN := Lib.hid (famsTo_no HIt.out (by rw [HFb.out, e0]; simp))
          clear v1 v2
          go_wp2
          go_quiet (fail)
          go_wp2
          go_roundw
          case rel => exact ⟨k + 1, ul, uw, S1, S2, by omega, by go_num, by unfold outL outM; rw [HN.out]; exact (HI.out.call (belowOne _ _)).drewN _⟩
          case measure => simp [intOf]; omega
        have g0 : (nth it.val 0 != o.who) = false := by simp only [bne, e0]; rfl
        rcases e2 : (nth it.val 2 == 1)
        · have g2 : (nth it.val 2 != 1) = true := by simp only [bne, e2]; rfl
          have HN := Lib.hid (famsTo_no HIt.out (by rw [HFb.out, e0, e2]; simp))
          clear v1
          go_wp2
          go_quiet (fail)
          go_wp2
          go_roundw
          case rel => exact ⟨k + 1, ul, uw, S1, S2, by omega, by go_num, by unfold outL outM; rw [HN.out]; exact (HI.out.call (belowOne _ _)).drewN _⟩
          case measure => simp [intOf]; omega
        · have g2 : (nth it.val 2 != 1) = false := by simp only [bne, e2]; rfl
          have HN := Lib.hid (famsTo_yes HIt.out (by rw [HFb.out, e0, e2]; simp))
          go_wp2
          go_quiet (fail)
          have HI6 := Lib.hid ((HI.out.call (belowOne wr (.cells #[.string it.key, .slice (some ⟨b', off', none⟩) it.val.length c''] 95))).drewN nq)
          have HX6 := Lib.hid (show Held ((wr.alloc (.cells #[.string it.key, .slice (some ⟨b', off', none⟩) it.val.length c''] 95)).drewN nq) wr.heap.size [.string it.key, .slice (some ⟨b', off', none⟩) it.val.length c''] from Held.new wr #[.string it.key, .slice (some ⟨b', off', none⟩) it.val.length c''] 95)
          have HS1 := Lib.hid (fun b hb => (HI.out.s1 b hb).2.2)
          have HS2 := Lib.hid (fun b hb => (HI.out.s2 b hb).2.2)
          have hpw : w1.heap.size + 1 < wr.heap.size := HI.out.pb.1
          have HCC := Lib.hid (fun (W : World) (hb : Below w.heap.size w W) (j : Nat) (hj : j < it.val.length) => (hb.cell (p := ⟨b', off' + j, none⟩) hb').trans ((HI.out.bel.cell (p := ⟨b', off' + j, none⟩) hb').symm.trans (HC.out j hj)))
          clear v0 v1 v2 o1 hzo hzr hzs s0
          generalize (wr.alloc (.cells #[.string it.key, .slice (some ⟨b', off', none⟩) it.val.length c''] 95)).drewN nq = w6 at *
          have hx6 : wr.heap.size < w6.heap.size := HX6.out.1
          have hp6 : w1.heap.size + 1 < w6.heap.size := HI6.out.pb.1
          obtain ⟨A1, c1, hA1, -, -⟩ := HI6.out.lk.row.form
          obtain ⟨A2, c2, hA2, -, -⟩ := HI6.out.wr.row.form
          subst hA1 hA2
          have hLn : (outL o its k).length ≤ 1048576 := by
            have h40 := (stoB_parts HF.out.1).1
            have := List.length_filter_le (famB o.who) (its.take k)
            have h2 : (its.take k).length ≤ its.length := List.length_take_le' _ _
            simp only [outL, famsTo, List.length_cons, List.length_map]; omega
          have HLM := Lib.hid (show (outM o its k).length ≤ 1048576 by simp only [outL, outM, List.length_cons, List.length_map] at hLn ⊢; omega)
          have HL6 := Lib.hid (HI6.out.call (belowOne w6 (.cells #[.string it.key] 9)))
          have HR6 := Lib.hid (strs_lit w6 [it.key] #[.string it.key] rfl (by simpa using hsz) (by unfold maxLen; simp)).row
          have p1 := HI6.out.pb.of 1 _ rfl
          have x0 := HX6.out.of 0 _ rfl
          go_upto_region 8 with (at_builtin; refine wpl_append_strs rfl _ _ rfl S1 _ (outL o its k) [it.key] rfl HL6.out.lk _ _ _ _ rfl rfl HR6.out (by simp only [List.length_cons, List.length_nil]; omega) ?_; intro u' w7 hu' hg7 hw7; obtain ⟨A7, c7, hf7, -, -⟩ := hu'.row.form; subst hf7; have HU7 := Lib.hid hu'; have HG7 := Lib.hid hg7; have HP7 := Lib.hid (HL6.out.pb.grown hg7 (fun e => by have := HL6.out.s1 _ (HL6.out.own1 _ e); omega)); have q1 := HP7.out.of 1 _ rfl; have qf := HP7.out.2.1; clear hu' hg7 hw7)
          have HI8 := Lib.hid (show OutS w (w1.heap.size + 1) o (.slice (some ⟨b, off, none⟩) its.length c) (outL o its k ++ [it.key]) (outM o its k) (.slice A7 ((outL o its k).length + 1) c7) (.slice A2 (outM o its k).length c2) (fun b => (S1 b ∨ b = (w6.alloc (.cells #[.string it.key] 9)).heap.size) ∧ b < w7.heap.size) S2 (w7.setCell ⟨w1.heap.size + 1, 1, none⟩ (.slice A7 ((outL o its k).length + 1) c7)) from by have h := HL6.out.lock HG7.out HU7.out; rw [List.length_append] at h; exact h)
          have HX8 := Lib.hid (show Held (w7.setCell ⟨w1.heap.size + 1, 1, none⟩ (.slice A7 ((outL o its k).length + 1) c7)) wr.heap.size [.string it.key, .slice (some ⟨b', off', none⟩) it.val.length c''] from ((HX6.out.after (.cells #[.string it.key] 9)).grown HG7.out (fun e => by have := HS1.out _ (HL6.out.own1 _ e); omega)).far (by show wr.heap.size ≠ w1.heap.size + 1; omega) _)
          clear q1 qf p1 x0 HP7 HU7 HG7 HL6 HR6 HI6 HX6 hx6 hp6
          generalize hw8 : (w7.setCell ⟨w1.heap.size + 1, 1, none⟩ (.slice A7 ((outL o its k).length + 1) c7)) = w8 at *
          clear hw8
          have hx8 : wr.heap.size < w8.heap.size := HX8.out.1
          have hp8 : w1.heap.size + 1 < w8.heap.size := HI8.out.pb.1
          have KK := Lib.hid (fun (W : World) (h1 : OutS w (w1.heap.size + 1) o (.slice (some ⟨b, off, none⟩) its.length c) (outL o its k ++ [it.key]) (outM o its k) (.slice A7 ((outL o its k).length + 1) c7) (.slice A2 (outM o its k).length c2) (fun b => (S1 b ∨ b = (w6.alloc (.cells #[.string it.key] 9)).heap.size) ∧ b < w7.heap.size) S2 W) (h2 : Held W wr.heap.size [.string it.key, .slice (some ⟨b', off', none⟩) it.val.length c'']) => show W.cell? ⟨w1.heap.size + 1, 2, none⟩ = some (.slice A2 (outM o its k).length c2) ∧ W.cell? ⟨wr.heap.size, 0, none⟩ = some (.string it.key) ∧ W.cell? ⟨wr.heap.size, 1, none⟩ = some (.slice (some ⟨b', off', none⟩) it.val.length c'') ∧ W.cell? ⟨b', off', none⟩ = some (.int .i64 (nth it.val 0)) ∧ W.cell? ⟨b', off' + 1, none⟩ = some (.int .i64 (nth it.val 1)) from ⟨h1.pb.of 2 _ rfl, h2.of 0 _ rfl, h2.of 1 _ rfl, by simpa using HCC.out W h1.bel 0 (by omega), HCC.out W h1.bel 1 l1⟩)
          have k0 := KK.out w8.drew HI8.out.drewOne HX8.out
          have k1 := KK.out (w8.alloc (.cells #[.int .i64 (nth it.val 0), .int .i64 (nth it.val 1), .int .i64 0] 3)).drew (HI8.out.call (belowOne w8 (.cells #[.int .i64 (nth it.val 0), .int .i64 (nth it.val 1), .int .i64 0] 3))).drewOne (HX8.out.after _)
          have HI9 := Lib.hid ((HI8.out.call (belowOne w8 (.cells #[.int .i64 (nth it.val 0), .int .i64 (nth it.val 1), .int .i64 0] 3))).call (belowOne _ (.cells #[.string it.key, .bool false, .slice (some ⟨w8.heap.size, 0, none⟩) 3 3] 77))).drewOne
          have HX9 := Lib.hid (show Held ((w8.alloc (.cells #[.int .i64 (nth it.val 0), .int .i64 (nth it.val 1), .int .i64 0] 3)).alloc (.cells #[.string it.key, .bool false, .slice (some ⟨w8.heap.size, 0, none⟩) 3 3] 77)).drew wr.heap.size [.string it.key, .slice (some ⟨b', off', none⟩) it.val.length c''] from (HX8.out.after _).after _)
          have k2 := KK.out (((w8.alloc (.cells #[.int .i64 (nth it.val 0), .int .i64 (nth it.val 1), .int .i64 0] 3)).alloc (.cells #[.string it.key, .bool false, .slice (some ⟨w8.heap.size, 0, none⟩) 3 3] 77)).drew) HI9.out HX9.out
          have HY9 := Lib.hid (show Sh.int.Own 3 (((w8.alloc (.cells #[.int .i64 (nth it.val 0), .int .i64 (nth it.val 1), .int .i64 0] 3)).alloc (.cells #[.string it.key, .bool false, .slice (some ⟨w8.heap.size, 0, none⟩) 3 3] 77)).drew) (fun b => b = w8.heap.size) (.slice (some ⟨w8.heap.size, 0, none⟩) 3 3) [nth it.val 0, nth it.val 1, 0] from ((ints_lit w8 [nth it.val 0, nth it.val 1, 0] #[.int .i64 (nth it.val 0), .int .i64 (nth it.val 1), .int .i64 0] rfl (by unfold maxLen; simp)).below (belowOne _ _)).below ((Below.refl _ _).drew))
          have HB9 := Lib.hid (show Held (((w8.alloc (.cells #[.int .i64 (nth it.val 0), .int .i64 (nth it.val 1), .int .i64 0] 3)).alloc (.cells #[.string it.key, .bool false, .slice (some ⟨w8.heap.size, 0, none⟩) 3 3] 77)).drew) (w8.heap.size + 1) [.string it.key, .bool false, .slice (some ⟨w8.heap.size, 0, none⟩) 3 3] from Held.new1 w8 _ _ _)
          refine region_l (S := (fun w' => w'.cell? ⟨w1.heap.size + 1, 2, none⟩ = some (.slice A2 (outM o its k).length c2) ∧ w'.cell? ⟨wr.heap.size, 0, none⟩ = some (.string it.key) ∧ w'.cell? ⟨wr.heap.size, 1, none⟩ = some (.slice (some ⟨b', off', none⟩) it.val.length c'') ∧ w'.cell? ⟨b', off', none⟩ = some (.int .i64 (nth it.val 0)) ∧ w'.cell? ⟨b', off' + 1, none⟩ = some (.int .i64 (nth it.val 1)))) 17 (by kernel_rfl) ?hSr7 (fun hHeldr7 => ?str7)
          case hSr7 => (first | (dsimp only; (first | with_reducible exact k3 | with_reducible exact k2 | with_reducible exact k1 | with_reducible exact k0)) | (first | with_reducible exact k3 | with_reducible exact k2 | with_reducible exact k1 | with_reducible exact k0))
          refine take_l 0 53 (v := ?vr7_1) rfl rfl (by kernel_rfl) (by kernel_rfl) (by kernel_rfl) (by kernel_rfl) (fun _ _ _ h => h) (by rfl) ?yr7_1 (by assumption) ?rr7_1
          case yr7_1 => (intro w hSw; (try dsimp only at hSw); go_simp; (try with_reducible rfl))
          simp only [Act.put, List.setIfInBounds_toArray, List.set_cons_zero, List.set_cons_succ]
          refine take_l 1 54 (v := ?vr7_2) rfl rfl (by kernel_rfl) (by kernel_rfl) (by kernel_rfl) (by kernel_rfl) (fun _ _ _ h => h) (by rfl) ?yr7_2 (by assumption) ?rr7_2
          case yr7_2 => (intro w hSw; (try dsimp only at hSw); go_simp; (try with_reducible rfl))
          simp only [Act.put, List.setIfInBounds_toArray, List.set_cons_zero, List.set_cons_succ]
          refine take_l 2 55 (v := ?vr7_3) rfl rfl (by kernel_rfl) (by kernel_rfl) (by kernel_rfl) (by kernel_rfl) (fun _ _ _ h => h) (by rfl) ?yr7_3 (by assumption) ?rr7_3
          case yr7_3 => (intro w hSw; (try dsimp only at hSw); go_simp; (try with_reducible rfl))
          simp only [Act.put, List.setIfInBounds_toArray, List.set_cons_zero, List.set_cons_succ]
          refine take_l 3 56 (v := ?vr7_4) rfl rfl (by kernel_rfl) (by kernel_rfl) (by kernel_rfl) (by kernel_rfl) (fun _ _ _ h => h) (by rfl) ?yr7_4 (by assumption) ?rr7_4
          case yr7_4 => (intro w hSw; (try dsimp only at hSw); go_simp; (try with_reducible rfl))
          simp only [Act.put, List.setIfInBounds_toArray, List.set_cons_zero, List.set_cons_succ]
          refine take_l 4 57 (v := ?vr7_5) rfl rfl (by kernel_rfl) (by kernel_rfl) (by kernel_rfl) (by kernel_rfl) (fun _ _ _ h => h) (by rfl) ?yr7_5 (by assumption) ?rr7_5
          case yr7_5 => (intro w hSw; (try dsimp only at hSw); go_simp; (try with_reducible rfl))
          simp only [Act.put, List.setIfInBounds_toArray, List.set_cons_zero, List.set_cons_succ]
          refine take_l 5 58 (v := ?vr7_6) rfl rfl (by kernel_rfl) (by kernel_rfl) (by kernel_rfl) (by kernel_rfl) (fun _ _ _ h => h) (by rfl) ?yr7_6 (by assumption) ?rr7_6
          case yr7_6 => (intro w hSw; (try dsimp only at hSw); go_simp; (try with_reducible rfl))
          simp only [Act.put, List.setIfInBounds_toArray, List.set_cons_zero, List.set_cons_succ]
          refine take_l 6 59 (v := ?vr7_7) rfl rfl (by kernel_rfl) (by kernel_rfl) (by kernel_rfl) (by kernel_rfl) (fun _ _ _ h => h) (by rfl) ?yr7_7 (by assumption) ?rr7_7
          case yr7_7 => (intro w hSw; (try dsimp only at hSw); go_simp; (try with_reducible rfl))
          simp only [Act.put, List.setIfInBounds_toArray, List.set_cons_zero, List.set_cons_succ]
          refine take_l 7 60 (v := ?vr7_8) rfl rfl (by kernel_rfl) (by kernel_rfl) (by kernel_rfl) (by kernel_rfl) (fun _ _ _ h => h) (by rfl) ?yr7_8 (by assumption) ?rr7_8
          case yr7_8 => (intro w hSw; (try dsimp only at hSw); go_simp; (try with_reducible rfl))
          simp only [Act.put, List.setIfInBounds_toArray, List.set_cons_zero, List.set_cons_succ]
          refine take_l 8 61 (v := ?vr7_9) rfl rfl (by kernel_rfl) (by kernel_rfl) (by kernel_rfl) (by kernel_rfl) (fun _ _ _ h => h) (by rfl) ?yr7_9 (by assumption) ?rr7_9
          case yr7_9 => (intro w hSw; (try dsimp only at hSw); go_simp; (try with_reducible rfl))
          simp only [Act.put, List.setIfInBounds_toArray, List.set_cons_zero, List.set_cons_succ]
          refine take_l 9 62 (v := ?vr7_10) rfl rfl (by kernel_rfl) (by kernel_rfl) (by kernel_rfl) (by kernel_rfl) (fun _ _ _ h => h) (by rfl) ?yr7_10 (by assumption) ?rr7_10
          case yr7_10 => (intro w hSw; (try dsimp only at hSw); go_simp; (try with_reducible rfl))
          simp only [Act.put, List.setIfInBounds_toArray, List.set_cons_zero, List.set_cons_succ]
          refine take_l 10 63 (v := ?vr7_11) rfl rfl (by kernel_rfl) (by kernel_rfl) (by kernel_rfl) (by kernel_rfl) (fun _ _ _ h => h) (by rfl) ?yr7_11 (by assumption) ?rr7_11
          case yr7_11 => (intro w hSw; (try dsimp only at hSw); go_simp; (try with_reducible rfl))
          simp only [Act.put, List.setIfInBounds_toArray, List.set_cons_zero, List.set_cons_succ]
          refine take_l 11 64 (v := ?vr7_12) rfl rfl (by kernel_rfl) (by kernel_rfl) (by kernel_rfl) (by kernel_rfl) (fun _ _ _ h => h) (by rfl) ?yr7_12 (by assumption) ?rr7_12
          case yr7_12 => (intro w hSw; (try dsimp only at hSw); go_simp; (try with_reducible rfl))
          simp only [Act.put, List.setIfInBounds_toArray, List.set_cons_zero, List.set_cons_succ]
          refine one_l 12 rfl (by kernel_rfl) (fun Kr7_13 hKr7_13 => ?cr7_13)
          go_simp
          skip
          go_wp2_with fail
          refine hKr7_13.out _ _ ?kr7_13 (fun hHoldr7_13 => ?dr7_13)
          case kr7_13 => (intro _; (first | (dsimp only; (first | with_reducible exact k3 | with_reducible exact k2 | with_reducible exact k1 | with_reducible exact k0)) | (first | with_reducible exact k3 | with_reducible exact k2 | with_reducible exact k1 | with_reducible exact k0)))
          clear hKr7_13 Kr7_13
          have hHeldr7_13 := hHoldr7_13 (by decide)
          clear hHoldr7_13
          refine take_l 13 66 (v := ?vr7_14) rfl rfl (by kernel_rfl) (by kernel_rfl) (by kernel_rfl) (by kernel_rfl) (fun _ _ _ h => h) (by rfl) ?yr7_14 (by assumption) ?rr7_14
          case yr7_14 => (intro w hSw; (try dsimp only at hSw); go_simp; (try with_reducible rfl))
          simp only [Act.put, List.setIfInBounds_toArray, List.set_cons_zero, List.set_cons_succ]
          refine one_l 14 rfl (by kernel_rfl) (fun Kr7_15 hKr7_15 => ?cr7_15)
          go_simp
          skip
          go_wp2_with fail
          refine hKr7_15.out _ _ ?kr7_15 (fun hHoldr7_15 => ?dr7_15)
          case kr7_15 => (intro _; (first | (dsimp only; (first | with_reducible exact k3 | with_reducible exact k2 | with_reducible exact k1 | with_reducible exact k0)) | (first | with_reducible exact k3 | with_reducible exact k2 | with_reducible exact k1 | with_reducible exact k0)))
          clear hKr7_15 Kr7_15
          have hHeldr7_15 := hHoldr7_15 (by decide)
          clear hHoldr7_15
          refine one_l 15 rfl (by kernel_rfl) (fun Kr7_16 hKr7_16 => ?cr7_16)
          rw [if_pos (by rfl)]
          refine app_wrs (.tmp 54) (.tmp 67) rfl S2 (fun b => b = w8.heap.size) _ (outM o its k) rfl HI9.out.wr (w8.heap.size + 1) rfl [.string it.key, .bool false, .slice (some ⟨w8.heap.size, 0, none⟩) 3 3] ⟨it.key, false, [nth it.val 0, nth it.val 1, 0]⟩ (wr_own.2 ⟨_, rfl, hsz, HY9.out⟩) HB9.out (fun b hb e => by have := (HI8.out.s2 b hb).2.2; omega) HLM.out ?_; intro v9 w9 hv9 hg9 hw9; obtain ⟨A9, c9, hf9, -, -⟩ := hv9.row.form; subst hf9; have HV9 := Lib.hid hv9; have HG9 := Lib.hid hg9; have HP9 := Lib.hid (HI9.out.pb.grown hg9 (fun e => by have := HI9.out.s2 _ (HI9.out.own2 _ e); omega)); have q2 := HP9.out.of 2 _ rfl; have qf := HP9.out.2.1; have k3 : w9.cell? ⟨w1.heap.size + 1, 2, none⟩ = some (.slice A2 (outM o its k).length c2) ∧ w9.cell? ⟨wr.heap.size, 0, none⟩ = some (.string it.key) ∧ w9.cell? ⟨wr.heap.size, 1, none⟩ = some (.slice (some ⟨b', off', none⟩) it.val.length c'') ∧ w9.cell? ⟨b', off', none⟩ = some (.int .i64 (nth it.val 0)) ∧ w9.cell? ⟨b', off' + 1, none⟩ = some (.int .i64 (nth it.val 1)) := ⟨q2, (HX9.out.grown hg9 (fun e => by have := HS2.out _ (HI9.out.own2 _ e); omega)).of 0 _ rfl, (HX9.out.grown hg9 (fun e => by have := HS2.out _ (HI9.out.own2 _ e); omega)).of 1 _ rfl, by simpa using HCC.out w9 (HI9.out.bel.grown hg9 HI9.out.bel.size (fun b hb => by have := HI9.out.s2 b (HI9.out.own2 b hb); omega)) 0 (by omega), HCC.out w9 (HI9.out.bel.grown hg9 HI9.out.bel.size (fun b hb => by have := HI9.out.s2 b (HI9.out.own2 b hb); omega)) 1 l1⟩; clear hv9 hg9 hw9
          refine hKr7_16.out _ _ ?kr7_16 (fun hHoldr7_16 => ?dr7_16)
          case kr7_16 => (intro _; (first | (dsimp only; (first | with_reducible exact k3 | with_reducible exact k2 | with_reducible exact k1 | with_reducible exact k0)) | (first | with_reducible exact k3 | with_reducible exact k2 | with_reducible exact k1 | with_reducible exact k0)))
          clear hKr7_16 Kr7_16
          have hHeldr7_16 := hHoldr7_16 (by decide)
          clear hHoldr7_16
          refine take_l 16 69 (v := ?vr7_17) rfl rfl (by kernel_rfl) (by kernel_rfl) (by kernel_rfl) (by kernel_rfl) (fun _ _ _ h => h) (by rfl) ?yr7_17 (by assumption) ?rr7_17
          case yr7_17 => (intro w hSw; (try dsimp only at hSw); go_simp; (try with_reducible rfl))
          simp only [Act.put, List.setIfInBounds_toArray]
          refine one_l 17 rfl (by kernel_rfl) (fun Kr7_18 hKr7_18 => ?cr7_18)
          go_simp
          skip
          go_wp2_with fail
          refine hKr7_18.out _ _ ?kr7_18 (fun hHoldr7_18 => ?dr7_18)
          case kr7_18 => exact fun h => absurd rfl h
          clear hKr7_18 Kr7_18
          clear hHoldr7_18
          refine done_l (by kernel_rfl) ?er7 _
          have HI10 := HI9.out.write (S' := fun b => b = w8.heap.size) (fun b hb => by rw [show (((w8.alloc (.cells #[.int .i64 (nth it.val 0), .int .i64 (nth it.val 1), .int .i64 0] 3)).alloc (.cells #[.string it.key, .bool false, .slice (some ⟨w8.heap.size, 0, none⟩) 3 3] 77)).drew).heap.size = w8.heap.size + 1 + 1 from by show (World.alloc _ _).heap.size = _; rw [alloc_size, alloc_size]]; omega) (fun b hb e => by have := (HI8.out.s1 b hb).2.2; omega) HG9.out HV9.out
          rw [List.length_append] at HI10
          have HT := Lib.hid HI10
          clear HI10 k0 k1 k2 k3 q2 qf
          go_wp2
          go_roundw
          case rel => exact ⟨k + 1, _, _, _, _, by omega, by go_num, by unfold outL outM; rw [HN.out, List.map_append, List.map_append]; exact HT.out⟩
          case measure => simp [intOf]; omega
      · have g1 : (ch == 102) = false := by simpa using h102
        have HN := Lib.hid (famsTo_no HIt.out (by rw [HFb.out]; simp [h102]))
        clear h102 
        go_wp2
        go_quiet (fail)
        go_wp2
        go_roundw
        case rel => exact ⟨k + 1, ul, uw, S1, S2, by omega, by go_num, by unfold outL outM; rw [HN.out]; exact (HI.out.call (belowOne _ _)).drewN _⟩
        case measure => simp [intOf]; omega
    · have hke : k = its.length := by omega
      subst hke
      obtain ⟨A1, c1, hA1, -, -⟩ := HI.out.lk.row.form
      obtain ⟨A2, c2, hA2, -, -⟩ := HI.out.wr.row.form
      subst hA1 hA2
      have p0 := HI.out.pb.of 0 _ rfl
      have p1 := HI.out.pb.of 1 _ rfl
      have p2 := HI.out.pb.of 2 _ rfl
      have r0 := HI.out.res.of 0 _ rfl
      have s0 := HI.out.sto.of 0 _ rfl
      have r1 := HI.out.res.of 1 _ rfl
      have r2 := HI.out.res.of 2 _ rfl
      have fr := HI.out.res.2.1
      go_wp2
      clear p0 p1 p2 r0 r1 r2 fr s0
      have HQ := HI.out.res.put3 (.bool true) (.slice A1 (outL o its its.length).length c1) (.slice A2 (outM o its its.length).length c2)
      have q0 := HQ.of 0 _ rfl
      have q1 := HQ.of 1 _ rfl
      have q2 := HQ.of 2 _ rfl
      rw [out_all]
      refine bodyPost_ret (v := .agg #[.bool true, .slice A1 (outL o its its.length).length c1, .slice A2 (outM o its its.length).length c2]) (by simp only [results, Tryz.results111, go_sem]; simp [go_sem, q0, q1, q2]) rfl ⟨_, _, rfl, planOwn (pl := ⟨true, outL o its its.length, outM o its its.length⟩) (w.heap.size + 3) (HI.out.lk.keep fun b hb _ => put3_far _ _ _ _ _ (by have := HI.out.s1 b hb; omega)) (HI.out.wr.keep fun b hb _ => put3_far _ _ _ _ _ (by have := HI.out.s2 b hb; omega)) (fun b hb => by have := HI.out.s1 b hb; omega) (fun b hb => by have := HI.out.s2 b hb; omega) (fun b h1 h2 => HI.out.ap b h1 h2) (by omega), ?_⟩
      exact belowPut3 HI.out.bel (w.heap.size + 1 + 1) (by omega) _ _ _

end Go.Proofs.YtecdibpiojgppaaGreat
