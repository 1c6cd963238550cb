/- At which places something is done: OpPlaces of the program and of the model. -/
import Derived.Test.YtmkombbjjmmgjaaPlanAt
import Derived.Test.YtmkombbjjmmgjaaIntsOne
namespace Go.Proofs.Ytmkombbjjmmgjaa
open Go.RowKit

/-- Whether a kind is done at a place. -/
def hereB (k p : Int) : Bool := decide (p = 3 ∨ p = 1 ∧ (k = 1 ∨ k = 2 ∨ k = 5) ∨ p = 2 ∧ k ≠ 1)
/-- The places below k at which something is done. -/
def upto (o : Op) (k : Nat) : List Int := (([1, 2, 3] : List Int).take (k - 1)).filter (hereB o.kind)
def placesP (o : Op) : List Int := if opB o then upto o 4 else []
theorem upto_one (o : Op) : upto o 1 = [] := rfl
theorem upto_yes {o : Op} {k : Nat} (h1 : 1 ≤ k) (h3 : k ≤ 3) (h : hereB o.kind (k : Int) = true) : upto o (k + 1) = upto o k ++ [(k : Int)] := by
  have hk : k = 1 ∨ k = 2 ∨ k = 3 := by omega
  rcases hk with rfl | rfl | rfl
  all_goals simp [upto, List.filter] at h ⊢
  · simp [h]
  · simp [h]
    cases hereB o.kind 1 <;> rfl
  · simp [h]
    cases hereB o.kind 1 <;> cases hereB o.kind 2 <;> rfl
theorem upto_no {o : Op} {k : Nat} (h1 : 1 ≤ k) (h3 : k ≤ 3) (h : hereB o.kind (k : Int) = false) : upto o (k + 1) = upto o k := by
  have hk : k = 1 ∨ k = 2 ∨ k = 3 := by omega
  rcases hk with rfl | rfl | rfl
  all_goals simp [upto, List.filter] at h ⊢
  all_goals simp [h]
theorem upto_len (o : Op) (k : Nat) : (upto o k).length ≤ 3 := by
  unfold upto
  refine Nat.le_trans (List.length_filter_le _ _) ?_
  simp; omega

theorem Ints.one1 (w : World) (x : Obj) (m : Int) : Ints ((w.alloc x).alloc (.cells #[.int .i64 m] 3)) ((w.alloc x).alloc (.cells #[.int .i64 m] 3)).heap.size (.slice (some ⟨w.heap.size + 1, 0, none⟩) 1 1) [m] := by
  have h := Ints.one (w.alloc x) m
  rwa [show (w.alloc x).heap.size = w.heap.size + 1 by simp] at h
theorem itemsNil (w : World) : Items w w.heap.size (.slice none 0 0) [] := ⟨none, 0, rfl, Nat.le_refl _, Nat.zero_le _, fun h => absurd h (by simp)⟩
/-- What planAt leaves, loosely. -/
def SomePlan (b : Bool) (w : World) (e : Ending) (w' : World) : Prop := ∃ (q : Bool) (A : Option Addr) (n c : Nat) (A' : Option Addr) (n' c' : Nat), e = .returned (.tuple #[.agg #[.bool q, .slice A n c, .slice A' n' c'], .bool b]) ∧ Below w.heap.size w w'
theorem Planned.some {pl : Plan} {b : Bool} {w w' : World} {e : Ending} (h : Planned pl b w e w') : SomePlan b w e w' := by
  obtain ⟨u, v, rfl, ho, hb⟩ := h
  obtain ⟨x1, y1, S1, S2, hcs, hx, hy, -⟩ := plan_own.1 ho
  obtain ⟨rfl, rfl⟩ : u = x1 ∧ v = y1 := by simpa using hcs
  obtain ⟨xa, xc, hxf, -, -⟩ := hx.row.form
  obtain ⟨ya, yc, hyf, -, -⟩ := hy.row.form
  subst hxf hyf
  exact ⟨_, _, _, _, _, _, _, rfl, hb⟩
theorem planAt0_any (w : World) (o : Op) (ho : opB o = true) (p : Int) (hp : p = 1 ∨ p = 2 ∨ p = 3) :
    Calls Try.prog 42 #[.int .i64 p, .agg #[.slice none 0 0], .int .i64 0, .iface (actT o.kind) (opV o)] w (SomePlan (hereB o.kind p) w) := by
  have hs : stoB [] = true := by decide
  have hf : formB 2 [] = true := rfl
  have z0 : (0 : Int) ≤ 0 := by omega
  have z9 : (0 : Int) ≤ 29 := by omega
  rcases opK_kind ho with hk | hk | hk | hk | hk <;> rcases hp with rfl | rfl | rfl
  all_goals rw [hk]
  · exact (planAt11 w o _ [] (itemsNil w) hs (.inl hf) ho 0 z0 z9).mono fun e w' h => h.some
  · exact (planAt12 w o _ [] (itemsNil w) hs (.inl hf) ho 0 z0 z9).mono fun e w' h => h.some
  · exact (planAt13 w o _ [] (itemsNil w) hs (.inl hf) ho 0 z0 z9).mono fun e w' h => h.some
  · exact (planAt21 w o _ [] (itemsNil w) hs (.inl hf) ho 0 z0 z9).mono fun e w' h => h.some
  · exact (planAt22 w o _ [] (itemsNil w) hs (.inl hf) ho 0 z0 z9).mono fun e w' h => h.some
  · exact (planAt23 w o _ [] (itemsNil w) hs (.inl hf) ho 0 z0 z9).mono fun e w' h => h.some
  · exact (planAt31 w o _ [] (itemsNil w) hs (.inl hf) ho 0 z0 z9).mono fun e w' h => h.some
  · exact (planAt32 w o _ [] (itemsNil w) hs (.inl hf) ho 0 z0 z9).mono fun e w' h => h.some
  · exact (planAt33 w o _ [] (itemsNil w) hs (.inl hf) ho 0 z0 z9).mono fun e w' h => h.some
  · exact (planAt41 w o _ [] (itemsNil w) hs (.inl hf) ho 0 z0 z9).mono fun e w' h => h.some
  · exact (planAt42 w o _ [] (itemsNil w) hs (.inl hf) ho 0 z0 z9).mono fun e w' h => h.some
  · exact (planAt43 w o _ [] (itemsNil w) hs (.inl hf) ho 0 z0 z9).mono fun e w' h => h.some
  · exact (planAt51 w o _ [] (itemsNil w) hs (.inl hf) ho 0 z0 z9).mono fun e w' h => h.some
  · exact (planAt52_0 w o _ (itemsNil w) hs (.inl hf) ho 0 z0 z9).mono fun e w' h => h.some
  · exact (planAt53 w o _ [] (itemsNil w) hs (.inl hf) ho 0 z0 z9).mono fun e w' h => h.some

/-- What OpPlaces leaves: numbers of its own. -/
def Placed (xs : List Int) (w : World) (e : Ending) (w' : World) : Prop := ∃ u, e = .returned u ∧ OwnInts w' w.heap.size u xs ∧ Below w.heap.size w w'

set_option maxRecDepth 100000 in
set_option maxHeartbeats 2000000 in
theorem implOpPlaces_any (w : World) (o : Op) : Calls Try.prog 18 #[opV o] w (Placed (placesP o) w) := by
  have HB := Lib.hid (belowOne w (.cells #[.int .i64 o.kind, .int .i64 o.who, .int .i64 o.inn, .int .i64 o.code, .int .i64 o.sec, .int .i64 o.fam, .int .i64 o.gen] 27))
  rcases ho : opB o
  · have HP := Lib.hid (show placesP o = [] by unfold placesP; rw [ho]; rfl)
    go_enter Try.func18, Try.ntmps18
    go_wp2_with fail
    refine (actionOf_no _ _ ho).mono ?_
    rintro e w1 ⟨rfl, hb⟩
    replace HB := Lib.hid (belowNext HB.out hb)
    clear hb
    go_wp2
    rw [HP.out]
    go_ret
    exact ⟨_, rfl, World.ownsRow_nil _ _ _ _, HB.out⟩
  · have HP := Lib.hid (show placesP o = upto o 4 by unfold placesP; rw [ho]; rfl)
    have HO := Lib.hid ho
    go_enter Try.func18, Try.ntmps18
    go_wp2_with fail
    refine (actionOf_yes _ _ ho).mono ?_
    rintro e w1 ⟨rfl, hb⟩
    replace HB := Lib.hid (belowNext HB.out hb)
    clear hb ho
    go_wp2
    go_loopw [5, 6] (fun a i wr => ∃ k : Nat, 1 ≤ k ∧ k ≤ 4 ∧ i = .int .i64 k ∧ OwnInts wr w.heap.size a (upto o k) ∧ Below w.heap.size w wr) (fun _ i _ => 4 - (intOf i).toNat)
    case atStart => exact ⟨1, by omega, by omega, rfl, by rw [upto_one]; exact World.ownsRow_nil _ _ _ _, HB.out⟩
    case round =>
      obtain ⟨k, k1, k4, rfl, hown, hb⟩ := hrel
      have HN := Lib.hid hown
      have HBr := Lib.hid hb
      clear hown hb HB
      obtain ⟨Aa, ca, haf, -, -⟩ := HN.out.ints.form
      subst haf
      by_cases hlt : k ≤ 3
      · go_wp2_with fail
        refine (planAt0_any _ o HO.out (k : Int) (by omega)).mono ?_
        rintro e w2 ⟨q, A1, n1, c1, A2, n2, c2, rfl, hb⟩
        have hz2 : w.heap.size ≤ w2.heap.size := (belowNext HBr.out hb).size
        replace HN := Lib.hid ((HN.out.below hb).below (belowOne w2 (.cells #[.bool q, .slice A1 n1 c1, .slice A2 n2 c2] 59)))
        replace HBr := Lib.hid (belowNext (belowNext HBr.out hb) (belowOne w2 (.cells #[.bool q, .slice A1 n1 c1, .slice A2 n2 c2] 59)))
        clear hb
        rcases hh : hereB o.kind (k : Int)
        · have HU := Lib.hid (upto_no k1 hlt hh)
          go_wp2
          go_roundw
          case rel => exact ⟨k + 1, by omega, by omega, by go_num, by rw [HU.out]; exact HN.out, HBr.out⟩
          case measure => simp [intOf]; omega
        · have HU := Lib.hid (upto_yes k1 hlt hh)
          have hl := upto_len o k
          have HA := Lib.hid (HN.out.below (belowOne _ (.cells #[.int .i64 (k : Int)] 3)))
          have HC := Lib.hid (belowNext HBr.out (belowOne _ (.cells #[.int .i64 (k : Int)] 3)))
          clear HN HBr
          go_wp2_with (at_builtin; refine wpl_append_ints rfl _ _ rfl w.heap.size _ (upto o k) rfl HA.out _ _ _ [(k : Int)] rfl (Ints.one1 w2 (.cells #[.bool q, .slice A1 n1 c1, .slice A2 n2 c2] 59) (k : Int)) (by simp only [List.length_cons, List.length_nil]; omega) (by first | omega | (simp; omega)) ?_; intro u w4 hown4 hg4; have HO4 := Lib.hid hown4; have HG4 := Lib.hid hg4; clear hown4 hg4)
          have HD := Lib.hid (HC.out.grown HG4.out HC.out.size (fun b hb => (HA.out.lt b hb).1))
          clear HA HC HG4
          go_wp2
          go_roundw
          case rel => exact ⟨k + 1, by omega, by omega, by go_num, by rw [HU.out]; exact HO4.out, HD.out⟩
          case measure => simp [intOf]; omega
      · have hk4 : k = 4 := by omega
        subst hk4
        go_wp2
        rw [HP.out]
        go_ret
        exact ⟨_, rfl, HN.out, HBr.out⟩

end Go.Proofs.Ytmkombbjjmmgjaa
