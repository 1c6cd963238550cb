/- Marks on things and on stores. -/
import Derived.Test.YtdplloeefggeoaaTree
namespace Go.Proofs.Ytdplloeefggeoaa
open Go.RowKit

theorem decs_size : ∀ (n : Nat) (k : Int) (s : ByteArray), k.toNat ≤ n → (decs k s).size ≤ n + s.size
  | n, k, s, h => by
    by_cases hk : 0 < k
    · cases n with
      | zero => omega
      | succ n =>
        rw [← decs_step s hk]
        have := decs_size n (k / 10) (digT (k % 10) ++ s) (by omega)
        rw [ByteArray.size_append, digT_size] at this
        omega
    · rw [decs_end s (by omega)]; omega
theorem markS_size {k : Int} (h : k ≤ 1000000000000000) : (markS k).size ≤ maxLen := by
  unfold markS maxLen
  rw [ByteArray.size_append]
  have h1 := decs_size k.toNat k ⟨#[]⟩ (Nat.le_refl _)
  have h2 : (⟨#[]⟩ : ByteArray).size = 0 := rfl
  have h3 : (⟨#[109]⟩ : ByteArray).size = 1 := rfl
  omega

theorem MarkedTo.start (its : List Item) (k : Int) : MarkedTo its k 0 := fun j _ h => absurd h (by omega)
theorem MarkedTo.step {its its' : List Item} {k : Int} {m : Nat} {x : Item} (h : MarkedTo its k m) (hm : m < its.length) (hlen : ∀ j, lenAt its' j = lenAt its j) (hfar : ∀ j, j ≠ m → its'[j]? = its[j]?) (hx : its'[m]? = some x)
    (h1 : x.key = markS (kAt its k m)) (h2 : Marked x.val (kAt its k m + 1) x.val.length) : MarkedTo its' k (m + 1) := by
  intro j it hj hit
  rw [kAt_congr hlen k j]
  by_cases e : j = m
  · subst e
    rw [hx] at hit
    injection hit with hit
    subst hit
    exact ⟨h1, h2⟩
  · exact h j it (by omega) (by rw [← hfar j e]; exact hit)

/-- What marking a slice of things leaves. -/
def MarkedTree (lo hi : Nat) (v : Value) (its : List Item) (k : Int) (w : World) (e : Ending) (w' : World) : Prop :=
  ∃ its', e = .returned (.int .i64 (kAt its k its.length)) ∧ its'.length = its.length ∧ (∀ j, lenAt its' j = lenAt its j) ∧ MarkedTo its' k its.length ∧ Tree w' lo hi v its' ∧ Out lo hi w w'

theorem markStoItemS_any (w : World) (lo hi : Nat) (v : Value) (its : List Item) (hv : Tree w lo hi v its) (hhi : hi ≤ w.heap.size) (hn : its.length ≤ 1048576) (hs : Short its its.length) :
    Calls Try.prog 67 #[v, .int .i64 1] w (MarkedTree lo hi v its 1 w) := by
  obtain ⟨A, c, hvf, hc2, hc1⟩ := hv.items.form
  subst hvf
  unfold maxLen at hc2
  have HS := Lib.hid hs
  have HV := Lib.hid hv
  clear hs hv
  go_enter Try.func67, Try.ntmps67
  go_wp2
  go_loopw [1, 5] (fun q i wr => ∃ (m : Nat) (its' : List Item), m ≤ its.length ∧ i = .int .i64 m ∧ q = .int .i64 (kAt its 1 m) ∧ its'.length = its.length ∧ (∀ j, lenAt its' j = lenAt its j) ∧ MarkedTo its' 1 m ∧ Tree wr lo hi (.slice A its.length c) its' ∧ Out lo hi w wr) (fun _ i _ => its.length - (intOf i).toNat)
  case atStart => exact ⟨0, its, Nat.zero_le _, rfl, rfl, rfl, fun _ => rfl, MarkedTo.start _ _, HV.out, Out.refl _ _ _⟩
  case round =>
    obtain ⟨m, its', hm, rfl, rfl, hl, hlen, hmk, htr, hout⟩ := hrel
    have hkb := kAt_bound HS.out 1 m
    by_cases hlt : m < its.length
    · obtain ⟨g, cap, it, u, e1, hit, hg0, hg1, hks, ck, fk, -, -, -, -⟩ := htr.at_ (j := m) (by omega)
      have hvl : it.val.length ≤ 1048576 := by
        have h1 := hlen m
        rw [lenAt_some hit, lenAt_some (List.getElem?_eq_getElem hlt)] at h1
        rw [h1]; exact (HS.out m _ hlt (List.getElem?_eq_getElem hlt)).2
      rw [hl] at e1
      injection e1 with e1a e1b e1c
      subst e1a e1c
      have HL := Lib.hid hl
      have HLen := Lib.hid hlen
      have HMk := Lib.hid hmk
      have HTr := Lib.hid htr
      have HOut := Lib.hid hout
      have HIt := Lib.hid hit
      have hhw : hi ≤ wr.heap.size := Nat.le_trans hhi hout.size
      clear e1b hl hlen hmk htr hout hit HV
      go_wp2_with fail
      refine (markText_any _ _ (by omega) (by omega)).mono ?_
      rintro e w1 ⟨rfl, hb1⟩
      have ck1 := (hb1.cell (p := ⟨g, m * 2, none⟩) (Nat.lt_of_lt_of_le hg1 hhw)).trans ck
      have fk1 := (hb1.frozen (p := ⟨g, m * 2, none⟩) (Nat.lt_of_lt_of_le hg1 hhw)).trans fk
      have hT1 : Tree w1 lo hi (.slice (some ⟨g, 0, none⟩) its'.length c) its' := HL.out.symm ▸ HTr.out.below hb1
      have hT2 := hT1.setKey HIt.out (markS (kAt its 1 m)) (markS_size (by omega))
      have hml : m < (its'.set m ⟨markS (kAt its 1 m), it.val⟩).length := by rw [List.length_set, HL.out]; exact hlt
      have hT2' : Tree (w1.setCell ⟨g, m * 2, none⟩ (.string (markS (kAt its 1 m)))) lo hi (.slice (some ⟨g, 0, none⟩) its.length c) (its'.set m ⟨markS (kAt its 1 m), it.val⟩) := HL.out ▸ hT2
      obtain ⟨g', cap', it', u', e2, hit', -, -, -, -, -, cu', hu', hub', hnext⟩ := hT2'.at_ hml
      rw [set_get (by rw [HL.out]; exact hlt)] at hit'
      injection hit' with hit'
      subst hit'
      injection e2 with e2a e2b e2c
      injection e2a with e2a
      injection e2a with e2a
      subst e2a
      clear e2b e2c
      obtain ⟨A', c', hu'f, -, -⟩ := hu'.ints.form
      subst hu'f
      have HO2 := Lib.hid ((HOut.out.trans (Out.of_below hb1)).trans (Out.of_grown (grownKey w1 g (m * 2) (.string (markS (kAt its 1 m)))) (fun k hk => by injection hk with hk; omega)))
      have HU := Lib.hid hu'
      have HUb := Lib.hid hub'
      have HNx := Lib.hid hnext
      clear hb1 hT1 hT2 hT2' hml hu' hub' hnext ck fk HTr HOut
      go_wp2_with fail
      refine (markIntS_any _ _ _ _ HU.out _ (by omega) (by omega) hvl).mono ?_
      rintro e w3 ⟨ys, rfl, hyl, hym, hyo, hyg, hyz⟩
      have HT3 := Lib.hid (HNx.out w3 ys hyo hyg)
      have HO3 := Lib.hid (HO2.out.trans (Out.of_grown hyg HUb.out))
      have HYl := Lib.hid hyl
      have HYm := Lib.hid hym
      have hadd : kAt its 1 (m + 1) = kAt its 1 m + 1 + (it.val.length : Int) := by
        show kAt its 1 m + 1 + (lenAt its m : Int) = _
        rw [← HLen.out m, lenAt_some HIt.out]
      have HA := Lib.hid hadd
      clear hyl hym hyo hyg hyz hadd
      go_wp2
      go_roundw
      case rel =>
        have hml : m < its'.length := by rw [HL.out]; exact hlt
        refine ⟨m + 1, _, by omega, by go_num, by rw [HA.out], ?_, fun j => ?_, ?_, HT3.out, HO3.out⟩
        · rw [List.length_set, List.length_set]; exact HL.out
        · rw [lenAt_set (set_get hml) (show ys.length = it.val.length from HYl.out), lenAt_set (x := ⟨markS (kAt its 1 m), it.val⟩) HIt.out rfl]; exact HLen.out j
        · have hk : kAt its' 1 m = kAt its 1 m := kAt_congr HLen.out 1 m
          refine MarkedTo.step HMk.out hml (x := ⟨markS (kAt its 1 m), ys⟩) (fun j => ?_) (fun j hj => ?_) (set_get (by rw [List.length_set]; exact hml)) (by rw [hk]) (by rw [hk]; show Marked ys _ ys.length; rw [HYl.out]; exact HYm.out)
          · rw [lenAt_set (set_get hml) (show ys.length = it.val.length from HYl.out), lenAt_set (x := ⟨markS (kAt its 1 m), it.val⟩) HIt.out rfl]
          · rw [set_far (Ne.symm hj), set_far (Ne.symm hj)]
      case measure => simp [intOf]; omega
    · obtain rfl : m = its.length := by omega
      have HL := Lib.hid hl
      have HLen := Lib.hid hlen
      have HMk := Lib.hid hmk
      have HTr := Lib.hid htr
      have HOut := Lib.hid hout
      clear hl hlen hmk htr hout HV
      go_wp2
      go_ret
      exact ⟨its', rfl, HL.out, HLen.out, HMk.out, HTr.out, HOut.out⟩

theorem markStoStore_any (w : World) (lo hi : Nat) (v : Value) (its : List Item) (hv : Tree w lo hi v its) (hhi : hi ≤ w.heap.size) (hn : its.length ≤ 1048576) (hs : Short its its.length) :
    Calls Try.prog 32 #[.agg #[v], .int .i64 1] w (MarkedTree lo hi v its 1 w) := by
  obtain ⟨A, c, hvf, hc2, hc1⟩ := hv.items.form
  subst hvf
  have HV := Lib.hid fun o => hv.below (belowOne w o)
  have HO := Lib.hid fun o => Out.of_below (lo := lo) (hi := hi) (belowOne w o)
  have HS := Lib.hid hs
  clear hv hs
  go_enter Try.func32, Try.ntmps32
  go_wp2_with fail
  refine (markStoItemS_any _ lo hi _ its (HV.out _) (by simp; omega) hn HS.out).mono ?_
  rintro e w1 ⟨its', rfl, h1, h2, h3, h4, h5⟩
  have H := Lib.hid (And.intro h1 (And.intro h2 (And.intro h3 (And.intro h4 ((HO.out _).trans h5)))))
  clear h1 h2 h3 h4 h5
  go_wp2
  go_ret
  exact ⟨its', rfl, H.out⟩

end Go.Proofs.Ytdplloeefggeoaa
