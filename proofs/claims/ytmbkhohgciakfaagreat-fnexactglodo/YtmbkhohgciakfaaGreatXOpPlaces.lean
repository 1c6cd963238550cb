/- Texts that follow each other, merged: OpPlaces, PlanAt52, PlcPlanI. -/
import Derived.Test.YtmbkhohgciakfaaGreatXPlanAt
import Derived.Test.YtmbkhohgciakfaaGreatXIntsOne
import Derived.Test.YtmbkhohgciakfaaGreatXOutMay2
import Derived.Test.YtmbkhohgciakfaaGreatXPlcIt

/- At which places something is done: OpPlaces of the program and of the model. -/
namespace Go.Proofs.YtmbkhohgciakfaaGreat
open Go.RowKit

/-- Whether a kind is done at a place. -/
def hereB (k p : Int) : Bool := decide (p = 3 ∨ p = 1 ∧ (k = 1 ∨ k = 2 ∨ k = 5) ∨ p = 2 ∧ k ≠ 1)
/-- The places below k at which something is done. -/
def upto (o : Op) (k : Nat) : List Int := (([1, 2, 3] : List Int).take (k - 1)).filter (hereB o.kind)
def placesP (o : Op) : List Int := if opB o then upto o 4 else []
theorem upto_one (o : Op) : upto o 1 = [] := rfl
theorem upto_yes {o : Op} {k : Nat} (h1 : 1 ≤ k) (h3 : k ≤ 3) (h : hereB o.kind (k : Int) = true) : upto o (k + 1) = upto o k ++ [(k : Int)] := by
  have hk : k = 1 ∨ k = 2 ∨ k = 3 := by omega
  rcases hk with rfl | rfl | rfl
  all_goals simp [upto, List.filter] at h ⊢
  · simp [h]
  · simp [h]
    cases hereB o.kind 1 <;> rfl
  · simp [h]
    cases hereB o.kind 1 <;> cases hereB o.kind 2 <;> rfl
theorem upto_no {o : Op} {k : Nat} (h1 : 1 ≤ k) (h3 : k ≤ 3) (h : hereB o.kind (k : Int) = false) : upto o (k + 1) = upto o k := by
  have hk : k = 1 ∨ k = 2 ∨ k = 3 := by omega
  rcases hk with rfl | rfl | rfl
  all_goals simp [upto, List.filter] at h ⊢
  all_goals simp [h]
theorem upto_len (o : Op) (k : Nat) : (upto o k).length ≤ 3 := by
  unfold upto
  refine Nat.le_trans (List.length_filter_le _ _) ?_
  simp; omega

theorem Ints.one1 (w : World) (x : Obj) (m : Int) : Ints ((w.alloc x).alloc (.cells #[.int .i64 m] 3)) ((w.alloc x).alloc (.cells #[.int .i64 m] 3)).heap.size (.slice (some ⟨w.heap.size + 1, 0, none⟩) 1 1) [m] := by
  have h := Ints.one (w.alloc x) m
  rwa [show (w.alloc x).heap.size = w.heap.size + 1 by simp] at h
theorem itemsNil (w : World) : Items w w.heap.size (.slice none 0 0) [] := ⟨none, 0, rfl, Nat.le_refl _, Nat.zero_le _, fun h => absurd h (by simp)⟩
/-- What planAt leaves, loosely. -/
def SomePlan (b : Bool) (w : World) (e : Ending) (w' : World) : Prop := ∃ (q : Bool) (A : Option Addr) (n c : Nat) (A' : Option Addr) (n' c' : Nat), e = .returned (.tuple #[.agg #[.bool q, .slice A n c, .slice A' n' c'], .bool b]) ∧ Below w.heap.size w w'
theorem Planned.some {pl : Plan} {b : Bool} {w w' : World} {e : Ending} (h : Planned pl b w e w') : SomePlan b w e w' := by
  obtain ⟨u, v, rfl, ho, hb⟩ := h
  obtain ⟨x1, y1, S1, S2, hcs, hx, hy, -⟩ := plan_own.1 ho
  obtain ⟨rfl, rfl⟩ : u = x1 ∧ v = y1 := by simpa using hcs
  obtain ⟨xa, xc, hxf, -, -⟩ := hx.row.form
  obtain ⟨ya, yc, hyf, -, -⟩ := hy.row.form
  subst hxf hyf
  exact ⟨_, _, _, _, _, _, _, rfl, hb⟩
theorem planAt0_any (w : World) (o : Op) (ho : opB o = true) (p : Int) (hp : p = 1 ∨ p = 2 ∨ p = 3) :
    Calls Tryz.prog 50 #[.int .i64 p, .agg #[.slice none 0 0], .int .i64 0, .iface (actT o.kind) (opV o)] w (SomePlan (hereB o.kind p) w) := by
  have hs : stoB [] = true := by decide
  have hf : formB 2 [] = true := rfl
  have z0 : (0 : Int) ≤ 0 := by omega
  have z9 : (0 : Int) ≤ 29 := by omega
  rcases opK_kind ho with hk | hk | hk | hk | hk <;> rcases hp with rfl | rfl | rfl
  all_goals rw [hk]
  · exact (planAt11 w o _ [] (itemsNil w) hs (.inl hf) ho 0 z0 z9).mono fun e w' h => h.some
  · exact (planAt12 w o _ [] (itemsNil w) hs (.inl hf) ho 0 z0 z9).mono fun e w' h => h.some
  · exact (planAt13 w o _ [] (itemsNil w) hs (.inl hf) ho 0 z0 z9).mono fun e w' h => h.some
  · exact (planAt21 w o _ [] (itemsNil w) hs (.inl hf) ho 0 z0 z9).mono fun e w' h => h.some
  · exact (planAt22 w o _ [] (itemsNil w) hs (.inl hf) ho 0 z0 z9).mono fun e w' h => h.some
  · exact (planAt23 w o _ [] (itemsNil w) hs (.inl hf) ho 0 z0 z9).mono fun e w' h => h.some
  · exact (planAt31 w o _ [] (itemsNil w) hs (.inl hf) ho 0 z0 z9).mono fun e w' h => h.some
  · exact (planAt32 w o _ [] (itemsNil w) hs (.inl hf) ho 0 z0 z9).mono fun e w' h => h.some
  · exact (planAt33 w o _ [] (itemsNil w) hs (.inl hf) ho 0 z0 z9).mono fun e w' h => h.some
  · exact (planAt41 w o _ [] (itemsNil w) hs (.inl hf) ho 0 z0 z9).mono fun e w' h => h.some
  · exact (planAt42 w o _ [] (itemsNil w) hs (.inl hf) ho 0 z0 z9).mono fun e w' h => h.some
  · exact (planAt43 w o _ [] (itemsNil w) hs (.inl hf) ho 0 z0 z9).mono fun e w' h => h.some
  · exact (planAt51 w o _ [] (itemsNil w) hs (.inl hf) ho 0 z0 z9).mono fun e w' h => h.some
  · exact (planAt52_0 w o _ (itemsNil w) hs (.inl hf) ho 0 z0 z9).mono fun e w' h => h.some
  · exact (planAt53 w o _ [] (itemsNil w) hs (.inl hf) ho 0 z0 z9).mono fun e w' h => h.some

/-- What OpPlaces leaves: numbers of its own. -/
def Placed (xs : List Int) (w : World) (e : Ending) (w' : World) : Prop := ∃ u, e = .returned u ∧ OwnInts w' w.heap.size u xs ∧ Below w.heap.size w w'

set_option maxRecDepth 100000 in
set_option maxHeartbeats 2000000 in
theorem implOpPlaces_any (w : World) (o : Op) : Calls Tryz.prog 27 #[opV o] w (Placed (placesP o) w) := by
  have HB := Lib.hid (belowOne w (.cells #[.int .i64 o.kind, .int .i64 o.who, .int .i64 o.inn, .int .i64 o.code, .int .i64 o.sec, .int .i64 o.fam, .int .i64 o.gen] 37))
  rcases ho : opB o
  · have HP := Lib.hid (show placesP o = [] by unfold placesP; rw [ho]; rfl)
    go_enter Tryz.func27, Tryz.ntmps27
    go_wp2_with fail
    refine (actionOf_no _ _ ho).mono ?_
    rintro e w1 ⟨rfl, hb⟩
    replace HB := Lib.hid (belowNext HB.out hb)
    clear hb
    go_wp2
    rw [HP.out]
    go_ret
    exact ⟨_, rfl, World.ownsRow_nil _ _ _ _, HB.out⟩
  · have HP := Lib.hid (show placesP o = upto o 4 by unfold placesP; rw [ho]; rfl)
    have HO := Lib.hid ho
    go_enter Tryz.func27, Tryz.ntmps27
    go_wp2_with fail
    refine (actionOf_yes _ _ ho).mono ?_
    rintro e w1 ⟨rfl, hb⟩
    replace HB := Lib.hid (belowNext HB.out hb)
    clear hb ho
    go_wp2
    go_loopw [5, 6] (fun a i wr => ∃ k : Nat, 1 ≤ k ∧ k ≤ 4 ∧ i = .int .i64 k ∧ OwnInts wr w.heap.size a (upto o k) ∧ Below w.heap.size w wr) (fun _ i _ => 4 - (intOf i).toNat)
    case atStart => exact ⟨1, by omega, by omega, rfl, by rw [upto_one]; exact World.ownsRow_nil _ _ _ _, HB.out⟩
    case round =>
      obtain ⟨k, k1, k4, rfl, hown, hb⟩ := hrel
      have HN := Lib.hid hown
      have HBr := Lib.hid hb
      clear hown hb HB
      obtain ⟨Aa, ca, haf, -, -⟩ := HN.out.ints.form
      subst haf
      by_cases hlt : k ≤ 3
      · go_wp2_with fail
        refine (planAt0_any _ o HO.out (k : Int) (by omega)).mono ?_
        rintro e w2 ⟨q, A1, n1, c1, A2, n2, c2, rfl, hb⟩
        have hz2 : w.heap.size ≤ w2.heap.size := (belowNext HBr.out hb).size
        replace HN := Lib.hid ((HN.out.below hb).below (belowOne w2 (.cells #[.bool q, .slice A1 n1 c1, .slice A2 n2 c2] 31)))
        replace HBr := Lib.hid (belowNext (belowNext HBr.out hb) (belowOne w2 (.cells #[.bool q, .slice A1 n1 c1, .slice A2 n2 c2] 31)))
        clear hb
        rcases hh : hereB o.kind (k : Int)
        · have HU := Lib.hid (upto_no k1 hlt hh)
          go_wp2
          go_roundw
          case rel => exact ⟨k + 1, by omega, by omega, by go_num, by rw [HU.out]; exact HN.out, HBr.out⟩
          case measure => simp [intOf]; omega
        · have HU := Lib.hid (upto_yes k1 hlt hh)
          have hl := upto_len o k
          have HA := Lib.hid (HN.out.below (belowOne _ (.cells #[.int .i64 (k : Int)] 3)))
          have HC := Lib.hid (belowNext HBr.out (belowOne _ (.cells #[.int .i64 (k : Int)] 3)))
          clear HN HBr
          go_wp2_with (at_builtin; refine wpl_append_ints rfl _ _ rfl w.heap.size _ (upto o k) rfl HA.out _ _ _ [(k : Int)] rfl (Ints.one1 w2 (.cells #[.bool q, .slice A1 n1 c1, .slice A2 n2 c2] 31) (k : Int)) (by simp only [List.length_cons, List.length_nil]; omega) (by first | omega | (simp; omega)) ?_; intro u w4 hown4 hg4; have HO4 := Lib.hid hown4; have HG4 := Lib.hid hg4; clear hown4 hg4)
          have HD := Lib.hid (HC.out.grown HG4.out HC.out.size (fun b hb => (HA.out.lt b hb).1))
          clear HA HC HG4
          go_wp2
          go_roundw
          case rel => exact ⟨k + 1, by omega, by omega, by go_num, by rw [HU.out]; exact HO4.out, HD.out⟩
          case measure => simp [intOf]; omega
      · have hk4 : k = 4 := by omega
        subst hk4
        go_wp2
        rw [HP.out]
        go_ret
        exact ⟨_, rfl, HN.out, HBr.out⟩

end Go.Proofs.YtmbkhohgciakfaaGreat

/- planAt, all kinds and places. By actgen.py. -/
namespace Go.Proofs.YtmbkhohgciakfaaGreat
open Go.RowKit

set_option maxRecDepth 100000 in
set_option maxHeartbeats 1000000 in
theorem planAt52 (w : World) (o : Op) (v : Value) (its : List Item) (hv : Items w w.heap.size v its) (hs : stoB its = true) (hf : formB 2 its = true ∨ 2 ≠ 2) (ho : opB o = true) (tx : Int) (_h0 : 0 ≤ tx) (_h9 : tx ≤ 29) :
    Calls Tryz.prog 50 #[.int .i64 2, .agg #[v], .int .i64 tx, .iface 133 (opV o)] w (Planned (mayP5 its o) true w) := by
  obtain ⟨A, c, rfl, hc2, hc1⟩ := hv.form
  clear hc1 hc2
  have HV := Lib.hid hv
  have HB := Lib.hid (belowTwo w (.cells #[.slice A its.length c] 35) (.cells #[.bool false, .slice none 0 0, .slice none 0 0] 31))
  have HR := Lib.hid (Held.new1 w (.cells #[.slice A its.length c] 35) #[.bool false, .slice none 0 0, .slice none 0 0] 31)
  have hm := meth52 ((w.alloc (.cells #[.slice A its.length c] 35)).alloc (.cells #[.bool false, .slice none 0 0, .slice none 0 0] 31)) o
  have hsz : ((w.alloc (.cells #[.slice A its.length c] 35)).alloc (.cells #[.bool false, .slice none 0 0, .slice none 0 0] 31)).heap.size = w.heap.size + 2 := by rw [alloc_size, alloc_size]
  have HZ := Lib.hid hsz
  clear hv hsz
  go_enter Tryz.func50, Tryz.ntmps50
  go_wp2_with fail
  refine (outMay_any _ o _ its ((HV.out.below HB.out).more HB.out.size) hs ho (hf.resolve_right (by decide))).mono ?_
  rintro e w1 ⟨x, y, rfl, hown, hb⟩
  have hlt : w.heap.size + 1 < ((w.alloc (.cells #[.slice A its.length c] 35)).alloc (.cells #[.bool false, .slice none 0 0, .slice none 0 0] 31)).heap.size := HR.out.1
  replace HR := Lib.hid (HR.out.below hb hlt)
  have HO := Lib.hid (planOver (w0 := w) hown hlt (by rw [HZ.out]; omega))
  replace HB := Lib.hid (belowNext HB.out hb)
  have hform := Lib.hid (plan_own.1 hown)
  clear hb hown hlt HV
  obtain ⟨x1, y1, S1, S2, hcs, hx, hy, -⟩ := hform.out
  obtain ⟨rfl, rfl⟩ : x = x1 ∧ y = y1 := by simpa using hcs
  obtain ⟨xa, xc, hxf, -, -⟩ := hx.row.form
  obtain ⟨ya, yc, hyf, -, -⟩ := hy.row.form
  subst hxf hyf
  clear hx hy hcs hform
  have p0 := HR.out.of 0 _ rfl
  have p1 := HR.out.of 1 _ rfl
  have p2 := HR.out.of 2 _ rfl
  have fr := HR.out.2.1
  go_wp2
  clear p0 p1 p2 fr
  have HQ := HR.out.put3 (.bool (mayP5 its o).ok) (.slice xa (mayP5 its o).locks.length xc) (.slice ya (mayP5 its o).writes.length yc)
  have q0 := HQ.of 0 _ rfl
  have q1 := HQ.of 1 _ rfl
  have q2 := HQ.of 2 _ rfl
  refine bodyPost_ret (v := .tuple #[.agg #[.bool (mayP5 its o).ok, .slice xa (mayP5 its o).locks.length xc, .slice ya (mayP5 its o).writes.length yc], .bool true]) (by simp only [results, Tryz.results50, go_sem]; simp [go_sem, q0, q1, q2]) rfl ⟨_, _, rfl, HO.out _ _ _, belowPut3 HB.out (w.heap.size + 1) (by omega) _ _ _⟩

/-- What a place plans, in plain words. -/
def planP (its : List Item) (p tx : Int) (o : Op) : Plan :=
  if p = 3 then doneP its tx o
  else if p = 1 then (if o.kind = 1 then inP1 its o else if o.kind = 2 then inP2 its o else if o.kind = 5 then inP5 its o else ⟨false, [], []⟩)
  else (if o.kind = 2 then mayP2 its o else if o.kind = 3 then mayP3 its o else if o.kind = 4 then mayP4 its o else if o.kind = 5 then mayP5 its o else ⟨false, [], []⟩)
theorem planAt_any (w : World) (o : Op) (v : Value) (its : List Item) (hv : Items w w.heap.size v its) (ho : opB o = true) (p : Int) (hp : p = 1 ∨ p = 2 ∨ p = 3) (hs : stoB its = true) (hf : formB p its = true) (tx : Int) (h0 : 0 ≤ tx) (h9 : tx ≤ 29) :
    Calls Tryz.prog 50 #[.int .i64 p, .agg #[v], .int .i64 tx, .iface (actT o.kind) (opV o)] w (Planned (planP its p tx o) (hereB o.kind p) w) := by
  have hk := opK_kind ho
  rcases hk with hk | hk | hk | hk | hk <;> rcases hp with rfl | rfl | rfl
  · have h1 : planP its 1 tx o = inP1 its o := by simp [planP, hk]
    have h2 : hereB o.kind 1 = true := by rw [hk]; decide
    have h3 : actT o.kind = 126 := by rw [hk]; rfl
    rw [h1, h2, h3]
    exact planAt11 w o _ its hv hs (.inr (by decide)) ho tx h0 h9
  · have h1 : planP its 2 tx o = ⟨false, [], []⟩ := by simp [planP, hk]
    have h2 : hereB o.kind 2 = false := by rw [hk]; decide
    have h3 : actT o.kind = 126 := by rw [hk]; rfl
    rw [h1, h2, h3]
    exact planAt12 w o _ its hv hs (.inl hf) ho tx h0 h9
  · have h1 : planP its 3 tx o = doneP its tx o := by simp [planP]
    have h2 : hereB o.kind 3 = true := by rw [hk]; decide
    have h3 : actT o.kind = 126 := by rw [hk]; rfl
    rw [h1, h2, h3]
    exact planAt13 w o _ its hv hs (.inr (by decide)) ho tx h0 h9
  · have h1 : planP its 1 tx o = inP2 its o := by simp [planP, hk]
    have h2 : hereB o.kind 1 = true := by rw [hk]; decide
    have h3 : actT o.kind = 128 := by rw [hk]; rfl
    rw [h1, h2, h3]
    exact planAt21 w o _ its hv hs (.inr (by decide)) ho tx h0 h9
  · have h1 : planP its 2 tx o = mayP2 its o := by simp [planP, hk]
    have h2 : hereB o.kind 2 = true := by rw [hk]; decide
    have h3 : actT o.kind = 128 := by rw [hk]; rfl
    rw [h1, h2, h3]
    exact planAt22 w o _ its hv hs (.inl hf) ho tx h0 h9
  · have h1 : planP its 3 tx o = doneP its tx o := by simp [planP]
    have h2 : hereB o.kind 3 = true := by rw [hk]; decide
    have h3 : actT o.kind = 128 := by rw [hk]; rfl
    rw [h1, h2, h3]
    exact planAt23 w o _ its hv hs (.inr (by decide)) ho tx h0 h9
  · have h1 : planP its 1 tx o = ⟨false, [], []⟩ := by simp [planP, hk]
    have h2 : hereB o.kind 1 = false := by rw [hk]; decide
    have h3 : actT o.kind = 131 := by rw [hk]; rfl
    rw [h1, h2, h3]
    exact planAt31 w o _ its hv hs (.inr (by decide)) ho tx h0 h9
  · have h1 : planP its 2 tx o = mayP3 its o := by simp [planP, hk]
    have h2 : hereB o.kind 2 = true := by rw [hk]; decide
    have h3 : actT o.kind = 131 := by rw [hk]; rfl
    rw [h1, h2, h3]
    exact planAt32 w o _ its hv hs (.inl hf) ho tx h0 h9
  · have h1 : planP its 3 tx o = doneP its tx o := by simp [planP]
    have h2 : hereB o.kind 3 = true := by rw [hk]; decide
    have h3 : actT o.kind = 131 := by rw [hk]; rfl
    rw [h1, h2, h3]
    exact planAt33 w o _ its hv hs (.inr (by decide)) ho tx h0 h9
  · have h1 : planP its 1 tx o = ⟨false, [], []⟩ := by simp [planP, hk]
    have h2 : hereB o.kind 1 = false := by rw [hk]; decide
    have h3 : actT o.kind = 132 := by rw [hk]; rfl
    rw [h1, h2, h3]
    exact planAt41 w o _ its hv hs (.inr (by decide)) ho tx h0 h9
  · have h1 : planP its 2 tx o = mayP4 its o := by simp [planP, hk]
    have h2 : hereB o.kind 2 = true := by rw [hk]; decide
    have h3 : actT o.kind = 132 := by rw [hk]; rfl
    rw [h1, h2, h3]
    exact planAt42 w o _ its hv hs (.inl hf) ho tx h0 h9
  · have h1 : planP its 3 tx o = doneP its tx o := by simp [planP]
    have h2 : hereB o.kind 3 = true := by rw [hk]; decide
    have h3 : actT o.kind = 132 := by rw [hk]; rfl
    rw [h1, h2, h3]
    exact planAt43 w o _ its hv hs (.inr (by decide)) ho tx h0 h9
  · have h1 : planP its 1 tx o = inP5 its o := by simp [planP, hk]
    have h2 : hereB o.kind 1 = true := by rw [hk]; decide
    have h3 : actT o.kind = 133 := by rw [hk]; rfl
    rw [h1, h2, h3]
    exact planAt51 w o _ its hv hs (.inr (by decide)) ho tx h0 h9
  · have h1 : planP its 2 tx o = mayP5 its o := by simp [planP, hk]
    have h2 : hereB o.kind 2 = true := by rw [hk]; decide
    have h3 : actT o.kind = 133 := by rw [hk]; rfl
    rw [h1, h2, h3]
    exact planAt52 w o _ its hv hs (.inl hf) ho tx h0 h9
  · have h1 : planP its 3 tx o = doneP its tx o := by simp [planP]
    have h2 : hereB o.kind 3 = true := by rw [hk]; decide
    have h3 : actT o.kind = 133 := by rw [hk]; rfl
    rw [h1, h2, h3]
    exact planAt53 w o _ its hv hs (.inr (by decide)) ho tx h0 h9

end Go.Proofs.YtmbkhohgciakfaaGreat

/- The program's PlcPlan. -/
namespace Go.Proofs.YtmbkhohgciakfaaGreat
open Go.RowKit

theorem txIn_any (n : Int) (w : World) : Calls Tryz.prog 49 #[.int .i64 n] w fun e w' => e = .returned (.bool (inB n 0 29)) ∧ w = w' := by
  by_cases h1 : 0 ≤ n
  · by_cases h2 : n ≤ 29
    · go_enter Tryz.func49, Tryz.ntmps49
      go_wp2
      go_ret
      exact ⟨ret_bool (by rw [inB_yes h1 h2]), rfl⟩
    · have h3 : 29 < n := by omega
      go_enter Tryz.func49, Tryz.ntmps49
      go_wp2
      go_ret
      exact ⟨ret_bool (by rw [inB_no (.inr h3)]), rfl⟩
  · have h3 : n < 0 := by omega
    go_enter Tryz.func49, Tryz.ntmps49
    go_wp2
    go_ret
    exact ⟨ret_bool (by rw [inB_no (.inl h3)]), rfl⟩

/-- What PlcPlan answers. -/
def plcP (its : List Item) (p tx : Int) (o : Op) : Plan := if (opB o && (plcB p its && inB tx 0 29)) = true then planP its p tx o else ⟨false, [], []⟩
/-- A plan of its own, as a record. -/
def PlannedAg (pl : Plan) (w : World) (e : Ending) (w' : World) : Prop :=
  ∃ u v, e = .returned (.agg #[.bool pl.ok, u, v]) ∧ planSh.own w' (fun b => w.heap.size ≤ b ∧ b < w'.heap.size) [.bool pl.ok, u, v] pl ∧ Below w.heap.size w w'
theorem planNil (w : World) (S : Nat → Prop) : planSh.own w S [.bool false, .slice none 0 0, .slice none 0 0] ⟨false, [], []⟩ :=
  plan_own.2 ⟨_, _, fun _ => False, fun _ => False, rfl, Sh.Own.nil _ _, Sh.Own.nil _ _, fun _ h => h.elim, fun _ h => h.elim, fun _ h _ => h⟩

set_option maxRecDepth 100000 in
set_option maxHeartbeats 2000000 in
theorem implPlcPlan_any (w : World) (p : Int) (v : Value) (its : List Item) (hv : Items w w.heap.size v its) (tx : Int) (o : Op) :
    Calls Tryz.prog 13 #[.int .i64 p, .agg #[v], .int .i64 tx, opV o] w (PlannedAg (plcP its p tx o) w) := by
  obtain ⟨A, c, rfl, hc2, hc1⟩ := hv.form
  have HV := Lib.hid hv
  have HB := Lib.hid (belowThree w (.cells #[.slice A its.length c] 35) (.cells #[.int .i64 o.kind, .int .i64 o.who, .int .i64 o.inn, .int .i64 o.code, .int .i64 o.sec, .int .i64 o.fam, .int .i64 o.gen] 37) (.cells #[.bool false, .slice none 0 0, .slice none 0 0] 31))
  have HR := Lib.hid (Held.new2 w (.cells #[.slice A its.length c] 35) (.cells #[.int .i64 o.kind, .int .i64 o.who, .int .i64 o.inn, .int .i64 o.code, .int .i64 o.sec, .int .i64 o.fam, .int .i64 o.gen] 37) #[.bool false, .slice none 0 0, .slice none 0 0] 31)
  have HX := Lib.hid (((Held.new w #[.slice A its.length c] 35).after (.cells #[.int .i64 o.kind, .int .i64 o.who, .int .i64 o.inn, .int .i64 o.code, .int .i64 o.sec, .int .i64 o.fam, .int .i64 o.gen] 37)).after (.cells #[.bool false, .slice none 0 0, .slice none 0 0] 31))
  clear hv hc1 hc2
  go_enter Tryz.func13, Tryz.ntmps13
  cases ho : opB o with
  | false =>
    have HE : Hid (plcP its p tx o = ⟨false, [], []⟩) := Lib.hid (by unfold plcP; rw [ho]; rfl)
    go_wp2_with fail
    refine (actionOf_no _ o ho).mono ?_
    rintro e w1 ⟨rfl, hb⟩
    replace HB := Lib.hid (belowNext HB.out hb)
    replace HR := Lib.hid (HR.out.below hb HR.out.1)
    clear hb HX
    have p0 := HR.out.of 0 _ rfl
    have p1 := HR.out.of 1 _ rfl
    have p2 := HR.out.of 2 _ rfl
    have fr := HR.out.2.1
    go_wp2
    have HQ := HR.out.put3 (.bool false) (.slice none 0 0) (.slice none 0 0)
    have q0 := HQ.of 0 _ rfl
    have q1 := HQ.of 1 _ rfl
    have q2 := HQ.of 2 _ rfl
    rw [HE.out]
    refine bodyPost_ret (v := .agg #[.bool false, .slice none 0 0, .slice none 0 0]) (by simp only [results, Tryz.results13, go_sem]; simp [go_sem, q0, q1, q2]) rfl ⟨_, _, rfl, planNil _ _, belowPut3 HB.out (w.heap.size + 1 + 1) (by omega) _ _ _⟩
  | true =>
    go_wp2_with fail
    refine (actionOf_yes _ o ho).mono ?_
    rintro e w1 ⟨rfl, hb⟩
    replace HB := Lib.hid (belowNext HB.out hb)
    replace HR := Lib.hid (HR.out.below hb HR.out.1)
    replace HX := Lib.hid (HX.out.below hb HX.out.1)
    clear hb
    have x0 := HX.out.of 0 _ rfl
    go_wp2_with fail
    refine (implPlcOk_any _ p _ its ((HV.out.below HB.out).more HB.out.size)).mono ?_
    rintro e w2 ⟨rfl, hb⟩
    replace HB := Lib.hid (belowNext HB.out hb)
    replace HR := Lib.hid (HR.out.below hb HR.out.1)
    replace HX := Lib.hid (HX.out.below hb HX.out.1)
    clear hb x0
    cases hp : plcB p its with
    | false =>
      have HE : Hid (plcP its p tx o = ⟨false, [], []⟩) := Lib.hid (by unfold plcP; rw [ho, hp]; rfl)
      clear hp HX
      have p0 := HR.out.of 0 _ rfl
      have p1 := HR.out.of 1 _ rfl
      have p2 := HR.out.of 2 _ rfl
      have fr := HR.out.2.1
      go_wp2
      have HQ := HR.out.put3 (.bool false) (.slice none 0 0) (.slice none 0 0)
      have q0 := HQ.of 0 _ rfl
      have q1 := HQ.of 1 _ rfl
      have q2 := HQ.of 2 _ rfl
      rw [HE.out]
      refine bodyPost_ret (v := .agg #[.bool false, .slice none 0 0, .slice none 0 0]) (by simp only [results, Tryz.results13, go_sem]; simp [go_sem, q0, q1, q2]) rfl ⟨_, _, rfl, planNil _ _, belowPut3 HB.out (w.heap.size + 1 + 1) (by omega) _ _ _⟩
    | true =>
      go_wp2_with fail
      refine (txIn_any _ _).mono ?_
      rintro e w' ⟨rfl, rfl⟩
      cases ht : inB tx 0 29 with
      | false =>
        have HE : Hid (plcP its p tx o = ⟨false, [], []⟩) := Lib.hid (by unfold plcP; rw [ho, hp, ht]; rfl)
        clear hp HX ht
        have p0 := HR.out.of 0 _ rfl
        have p1 := HR.out.of 1 _ rfl
        have p2 := HR.out.of 2 _ rfl
        have fr := HR.out.2.1
        go_wp2
        have HQ := HR.out.put3 (.bool false) (.slice none 0 0) (.slice none 0 0)
        have q0 := HQ.of 0 _ rfl
        have q1 := HQ.of 1 _ rfl
        have q2 := HQ.of 2 _ rfl
        rw [HE.out]
        refine bodyPost_ret (v := .agg #[.bool false, .slice none 0 0, .slice none 0 0]) (by simp only [results, Tryz.results13, go_sem]; simp [go_sem, q0, q1, q2]) rfl ⟨_, _, rfl, planNil _ _, belowPut3 HB.out (w.heap.size + 1 + 1) (by omega) _ _ _⟩
      | true =>
        have HE : Hid (plcP its p tx o = planP its p tx o) := Lib.hid (by unfold plcP; rw [ho, hp, ht]; rfl)
        have h9 : 0 ≤ tx ∧ tx ≤ 29 := by unfold inB at ht; simpa using ht
        have hp3 : (p = 1 ∨ p = 2 ∨ p = 3) ∧ stoB its = true ∧ formB p its = true := by
          unfold plcB at hp
          simp only [Bool.and_eq_true] at hp
          exact ⟨inB3 hp.1, hp.2.1, hp.2.2⟩
        clear hp ht
        have HP := Lib.hid hp3
        clear hp3
        have x0 := HX.out.of 0 _ rfl
        have hzz : w.heap.size + 1 + 1 < w2.heap.size := HR.out.1
        obtain ⟨pl, hpl⟩ : ∃ pl, planP its p tx o = pl := ⟨_, rfl⟩
        have HPl := Lib.hid hpl
        have HEp := Lib.hid (HE.out.trans hpl)
        clear hpl HE
        go_wp2_with fail
        refine (planAt_any _ o _ its ((HV.out.below HB.out).more HB.out.size) ho p HP.out.1 HP.out.2.1 HP.out.2.2 tx h9.1 h9.2).mono ?_
        rw [HPl.out]
        rintro e w3 ⟨x, y, rfl, hown, hb⟩
        replace HB := Lib.hid (belowNext HB.out hb)
        replace HR := Lib.hid (HR.out.below hb HR.out.1)
        have hz3 := hb.size
        have HO := Lib.hid hown
        obtain ⟨x1, y1, S1, S2, hcs, hx, hy, -⟩ := plan_own.1 hown
        obtain ⟨rfl, rfl⟩ : x = x1 ∧ y = y1 := by simpa using hcs
        obtain ⟨xa, xc, hxf, -, -⟩ := hx.row.form
        obtain ⟨ya, yc, hyf, -, -⟩ := hy.row.form
        subst hxf hyf
        clear hx hy hcs hown hb HX x0 HP
        have HRa := Lib.hid (HR.out.after (.cells #[.bool pl.ok, .slice xa pl.locks.length xc, .slice ya pl.writes.length yc] 31))
        have p0 := HRa.out.of 0 _ rfl
        have p1 := HRa.out.of 1 _ rfl
        have p2 := HRa.out.of 2 _ rfl
        have fr := HRa.out.2.1
        go_wp2
        clear p0 p1 p2 fr
        have HQ := HRa.out.put3 (.bool pl.ok) (.slice xa pl.locks.length xc) (.slice ya pl.writes.length yc)
        have q0 := HQ.of 0 _ rfl
        have q1 := HQ.of 1 _ rfl
        have q2 := HQ.of 2 _ rfl
        rw [HEp.out]
        refine bodyPost_ret (v := .agg #[.bool pl.ok, .slice xa pl.locks.length xc, .slice ya pl.writes.length yc]) (by simp only [results, Tryz.results13, go_sem]; simp [go_sem, q0, q1, q2]) rfl ⟨_, _, rfl, ?_, ?_⟩
        · refine planSh.omono (planSh.okeep HO.out fun b hb hlt => (put3_far _ _ _ _ _ (by have := hb.1; omega)).trans ((belowOne _ _).block b hlt)) fun b hb => ⟨by have := hb.1; omega, by rw [put3_size, alloc_size]; have := hb.2; omega⟩
        · exact belowPut3 (HB.out.alloc HB.out.size _) (w.heap.size + 1 + 1) (by omega) _ _ _

end Go.Proofs.YtmbkhohgciakfaaGreat
