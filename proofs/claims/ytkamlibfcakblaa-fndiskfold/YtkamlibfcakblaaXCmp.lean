/- Texts that follow each other, merged: Cmp, Find. -/
import Derived.Test.YtkamlibfcakblaaXVal
import Derived.Lib.Bytealg
import Derived.Lib.Strings
import Derived.WideShapes
import Derived.Test.YtkamlibfcakblaaXTree
import Derived.Lib.Walk

/- How two names compare: plain facts. Nothing of the program. -/
namespace Go.Proofs.Ytkamlibfcakblaa
open Go.RowKit

theorem cmp_lt : ∀ x y : List UInt8, Op.bytesLess x y = decide (Lib.compareBytes x y < 0)
  | [], [] => by simp [Op.bytesLess, Lib.compareBytes]
  | [], _ :: _ => by simp [Op.bytesLess, Lib.compareBytes]
  | _ :: _, [] => by simp [Op.bytesLess, Lib.compareBytes]
  | a :: x, b :: y => by
    unfold Op.bytesLess Lib.compareBytes
    rw [cmp_lt x y]
    by_cases h : a < b
    · simp [h]
    · by_cases h' : b < a
      · have hne : (a == b) = false := by
          rw [beq_eq_false_iff_ne]
          rintro rfl; exact h h'
        simp [h, h', hne]
      · have he : a = b := by
          have h1 : ¬ a.toNat < b.toNat := by simpa [UInt8.lt_iff_toNat_lt] using h
          have h2 : ¬ b.toNat < a.toNat := by simpa [UInt8.lt_iff_toNat_lt] using h'
          exact UInt8.toNat_inj.1 (by omega)
        subst he
        simp
theorem cmp_zero : ∀ x y : List UInt8, Lib.compareBytes x y = 0 ↔ x = y
  | [], [] => by simp [Lib.compareBytes]
  | [], _ :: _ => by simp [Lib.compareBytes]
  | _ :: _, [] => by simp [Lib.compareBytes]
  | a :: x, b :: y => by
    unfold Lib.compareBytes
    by_cases h : a < b
    · simp [h]
      rintro rfl; exact absurd h (by simp)
    · by_cases h' : b < a
      · simp [h, h']
        rintro rfl; exact absurd h' (by simp)
      · have he : a = b := by
          have h1 : ¬ a.toNat < b.toNat := by simpa [UInt8.lt_iff_toNat_lt] using h
          have h2 : ¬ b.toNat < a.toNat := by simpa [UInt8.lt_iff_toNat_lt] using h'
          exact UInt8.toNat_inj.1 (by omega)
        subst he
        simp [cmp_zero x y]

theorem cmp_trans : ∀ x y z : List UInt8, Lib.compareBytes x y < 0 → Lib.compareBytes y z < 0 → Lib.compareBytes x z < 0
  | [], [], _, h, _ => by simp [Lib.compareBytes] at h
  | _ :: _, [], _, h, _ => by simp [Lib.compareBytes] at h
  | _, _ :: _, [], _, h => by simp [Lib.compareBytes] at h
  | [], _ :: _, _ :: _, _, _ => by simp [Lib.compareBytes]
  | a :: x, b :: y, c :: z, h, h' => by
    unfold Lib.compareBytes at *
    have key : ∀ {u v : UInt8}, ¬ u < v → ¬ v < u → u = v := fun {u v} h1 h2 => by
      have h1' : ¬ u.toNat < v.toNat := by simpa [UInt8.lt_iff_toNat_lt] using h1
      have h2' : ¬ v.toNat < u.toNat := by simpa [UInt8.lt_iff_toNat_lt] using h2
      exact UInt8.toNat_inj.1 (by omega)
    have tr : ∀ {u v w : UInt8}, u < v → v < w → u < w := fun {u v w} h1 h2 => by
      rw [UInt8.lt_iff_toNat_lt] at *; omega
    by_cases ab : a < b
    · by_cases bc : b < c
      · simp [tr ab bc]
      · by_cases cb : c < b
        · rw [if_neg bc, if_pos cb] at h'; exact absurd h' (by decide)
        · have := key bc cb
          subst this
          simp [ab]
    · by_cases ba : b < a
      · rw [if_neg ab, if_pos ba] at h; exact absurd h (by decide)
      · have := key ab ba
        subst this
        rw [if_neg ab, if_neg ba] at h
        by_cases bc : a < c
        · simp [bc]
        · by_cases cb : c < a
          · rw [if_neg bc, if_pos cb] at h'; exact absurd h' (by decide)
          · rw [if_neg bc, if_neg cb] at h' ⊢
            exact cmp_trans x y z h h'

/-- How two names compare: below 0, 0, above 0. -/
def cmpB (a b : ByteArray) : Int := Lib.compareBytes a.data.toList b.data.toList
theorem ltB_cmp (a b : ByteArray) : ltB a b = decide (cmpB a b < 0) := by unfold ltB cmpB; rw [Lib.toList_data, Lib.toList_data, cmp_lt]
theorem cmpB_zero (a b : ByteArray) : cmpB a b = 0 ↔ a = b := by
  unfold cmpB; rw [cmp_zero]
  exact ⟨fun h => Go.WideShapes.bytes_inj h, fun h => by rw [h]⟩
theorem ltB_trans {a b c : ByteArray} (h : ltB a b = true) (h' : ltB b c = true) : ltB a c = true := by
  rw [ltB_cmp, decide_eq_true_iff] at *
  exact cmp_trans _ _ _ h h'
theorem ltB_irrefl (a : ByteArray) : ltB a a = false := by
  rw [ltB_cmp, (cmpB_zero a a).2 rfl]; rfl
theorem eq_toList {a b : ByteArray} : (a.toList == b.toList) = decide (a = b) := by
  rw [Bool.eq_iff_iff, beq_iff_eq, decide_eq_true_iff, Lib.toList_data, Lib.toList_data]
  exact ⟨fun h => Go.WideShapes.bytes_inj h, fun h => by rw [h]⟩

/-- Of a list whose names rise any name is less than any later one. -/
theorem rise_all {its : List Item} (h : Rise its its.length) : ∀ (d i : Nat) (a b : Item), its[i]? = some a → its[i + d + 1]? = some b → ltB a.key b.key = true
  | 0, i, a, b, ha, hb => h i a b (List.getElem?_eq_some_iff.1 hb).1 ha hb
  | d + 1, i, a, b, ha, hb => by
    have hl : i + (d + 1) + 1 < its.length := (List.getElem?_eq_some_iff.1 hb).1
    have hm : its[i + d + 1]? = some its[i + d + 1] := List.getElem?_eq_getElem (by omega)
    exact ltB_trans (rise_all h d i a _ ha hm) (h (i + d + 1) _ b (by omega) hm (by rw [← hb]; congr 1))
theorem rise_lt {its : List Item} (h : Rise its its.length) {i j : Nat} {a b : Item} (hij : i < j) (ha : its[i]? = some a) (hb : its[j]? = some b) : ltB a.key b.key = true :=
  rise_all h (j - i - 1) i a b ha (by rw [← hb]; congr 1; omega)

/-- The first i names are less than key. -/
def Lo (its : List Item) (key : ByteArray) (i : Nat) : Prop := ∀ t a, t < i → its[t]? = some a → ltB a.key key = true
/-- From place j on no name is less than key. -/
def Hi (its : List Item) (key : ByteArray) (j : Nat) : Prop := ∀ t a, j ≤ t → its[t]? = some a → ltB a.key key = false
theorem Lo.start (its : List Item) (key : ByteArray) : Lo its key 0 := fun t _ h => absurd h (by omega)
theorem Hi.start (its : List Item) (key : ByteArray) : Hi its key its.length := fun t a h ha => by
  have := (List.getElem?_eq_some_iff.1 ha).1
  omega
theorem Lo.mid {its : List Item} {key : ByteArray} (hr : Rise its its.length) {h : Nat} {x : Item} (hx : its[h]? = some x) (hl : ltB x.key key = true) : Lo its key (h + 1) := by
  intro t a ht ha
  rcases Nat.lt_or_ge t h with hlt | hge
  · exact ltB_trans (rise_lt hr hlt ha hx) hl
  · have : t = h := by omega
    subst this
    rw [hx] at ha
    injection ha with ha
    rw [← ha]; exact hl
theorem Hi.mid {its : List Item} {key : ByteArray} (hr : Rise its its.length) {h : Nat} {x : Item} (hx : its[h]? = some x) (hl : ltB x.key key = false) : Hi its key h := by
  intro t a ht ha
  cases hc : ltB a.key key with
  | false => rfl
  | true =>
    rcases Nat.lt_or_ge h t with hlt | hge
    · have := ltB_trans (rise_lt hr hlt hx ha) hc
      rw [hl] at this; exact absurd this (by decide)
    · have : t = h := by omega
      subst this
      rw [hx] at ha
      injection ha with ha
      rw [← ha, hl] at hc; exact absurd hc (by decide)

/-- The thing of a name, if it is kept. -/
def look (its : List Item) (key : ByteArray) : Option Item := its.find? fun it => decide (it.key = key)
theorem look_at {its : List Item} {key : ByteArray} (hr : Rise its its.length) {i : Nat} {x : Item} (hx : its[i]? = some x) (hk : x.key = key) : look its key = some x := by
  unfold look
  rw [List.find?_eq_some_iff_getElem]
  have hl := (List.getElem?_eq_some_iff.1 hx).1
  refine ⟨by simpa using hk, i, hl, by rw [List.getElem?_eq_getElem hl] at hx; exact Option.some.inj hx, fun j hj => ?_⟩
  have := rise_lt hr hj (List.getElem?_eq_getElem (by omega)) hx
  simp only [Bool.not_eq_eq_eq_not, Bool.not_true, decide_eq_false_iff_not]
  intro he
  rw [he, ← hk, ltB_irrefl] at this
  exact absurd this (by decide)
theorem look_none {its : List Item} {key : ByteArray} {i : Nat} (hlo : Lo its key i) (hhi : Hi its key i) (hr : Rise its its.length) (hn : ∀ x, its[i]? = some x → x.key ≠ key) : look its key = none := by
  unfold look
  rw [List.find?_eq_none]
  intro x hx
  obtain ⟨t, ht, rfl⟩ := List.getElem_of_mem hx
  simp only [decide_eq_true_eq]
  intro he
  have hg := List.getElem?_eq_getElem ht
  rcases Nat.lt_trichotomy t i with h | h | h
  · have := hlo t _ h hg
    rw [he, ltB_irrefl] at this; exact absurd this (by decide)
  · subst h
    exact hn _ hg he
  · have hil : i < its.length := by omega
    have hi := List.getElem?_eq_getElem hil
    have h1 := rise_lt hr h hi hg
    rw [he, hhi i _ (Nat.le_refl _) hi] at h1; exact absurd h1 (by decide)

/-- Whether the thing at a place has that name. -/
def hitB (its : List Item) (key : ByteArray) (i : Nat) : Bool := match its[i]? with
  | some x => decide (x.key = key)
  | none => false
theorem hitB_cmp {its : List Item} {key : ByteArray} {i : Nat} {x : Item} (hx : its[i]? = some x) : hitB its key i = (cmpB x.key key == 0) := by
  simp only [hitB, hx]
  rw [Bool.eq_iff_iff, decide_eq_true_iff, beq_iff_eq]
  exact (cmpB_zero _ _).symm
theorem hitB_end {its : List Item} {key : ByteArray} {i : Nat} (h : its.length ≤ i) : hitB its key i = false := by
  simp only [hitB, List.getElem?_eq_none h]
theorem look_hit {its : List Item} {key : ByteArray} (hr : Rise its its.length) {i : Nat} {x : Item} (hx : its[i]? = some x) (hh : hitB its key i = true) : look its key = some x := by
  simp only [hitB, hx, decide_eq_true_eq] at hh
  exact look_at hr hx hh
theorem look_miss {its : List Item} {key : ByteArray} {i : Nat} (hlo : Lo its key i) (hhi : Hi its key i) (hr : Rise its its.length) (hh : hitB its key i = false) : look its key = none :=
  look_none hlo hhi hr fun x hx he => by simp [hitB, hx, he] at hh

end Go.Proofs.Ytkamlibfcakblaa

/- The binary search of the program: where a name is, or would have to be. -/
namespace Go.Proofs.Ytkamlibfcakblaa
open Go.RowKit

theorem cmp_run (a b : ByteArray) (w : World) : (callFunc 154 #[.string a, .string b]).run Try.prog w = .ok (.value (.int .i64 (cmpB a b))) w := by
  rw [run_callFunc_extern Try.func154 (by kernel_rfl) (by kernel_rfl) (by kernel_rfl) (e := Extern.BytealgCompare.compare) (by kernel_rfl), Lib.run_compareString]
  rfl

theorem compare_any (a b : ByteArray) (w : World) :
    Calls Try.prog 140 #[.string a, .string b] w fun e w' => e = .returned (.int .i64 (cmpB a b)) ∧ w = w' := by
  have h := cmp_run
  go_enter Try.func140, Try.ntmps140
  go_wp2
  go_ret
  exact ⟨rfl, rfl⟩

theorem cmpItem_any (w : World) (k key : ByteArray) (A : Option Addr) (n c : Nat) :
    Calls Try.prog 139 #[.agg #[.string k, .slice A n c], .string key] w fun e w' => e = .returned (.int .i64 (cmpB k key)) ∧ Below w.heap.size w w' := by
  have m1 := method_sortKey
  go_enter Try.func139, Try.ntmps139
  go_wp2_with (first | (go_at_call 173; refine (sortKey_any _ _ _ _ _).mono ?_; rintro e w' ⟨rfl, hb'⟩; have hq := belowNext (belowOne _ _) hb'; clear hb') | (go_at_call 140; refine (compare_any _ _ _).mono ?_; rintro e w' ⟨rfl, rfl⟩))
  go_ret
  exact ⟨rfl, by assumption⟩

set_option maxRecDepth 100000 in
set_option maxHeartbeats 1000000 in
theorem search_any (w : World) (v : Value) (its : List Item) (key : ByteArray) (hv : Items w w.heap.size v its) (hlen : its.length ≤ 1048576) (hr : Rise its its.length) :
    Calls Try.prog 138 #[v, .string key, .func (.func 139) #[] #[]] w fun e w' =>
      ∃ i : Nat, i ≤ its.length ∧ Lo its key i ∧ Hi its key i ∧ e = .returned (.tuple #[.int .i64 i, .bool (hitB its key i)]) ∧ Below w.heap.size w w' := by
  obtain ⟨A, c, rfl, hc2, hc1⟩ := hv.form
  unfold maxLen at hc2
  go_enter Try.func138, Try.ntmps138
  go_wp2
  go_loopw [9, 10] (fun a b wr => ∃ i j : Nat, i ≤ j ∧ j ≤ its.length ∧ a = .int .i64 i ∧ b = .int .i64 j ∧ Lo its key i ∧ Hi its key j ∧ Below w.heap.size w wr) (fun a b _ => (intOf b).toNat - (intOf a).toNat)
  case atStart => exact ⟨0, its.length, Nat.zero_le _, Nat.le_refl _, rfl, rfl, Lo.start _ _, Hi.start _ _, Below.refl _ _⟩
  case round =>
    obtain ⟨i, j, hij, hj, rfl, rfl, hlo, hhi, hb⟩ := hrel
    by_cases hlt : i < j
    · obtain ⟨b, off, d, it, x, e1, hit, hB, hks, ck, cu, hx⟩ := (hv.below hb).at_ (k := (i + j) / 2) (by omega)
      obtain ⟨Ax, cx, hxf, _, _⟩ := hx.form
      subst hxf
      injection e1 with e1a e1b e1c
      subst e1a
      clear e1b e1c hx
      have HV := Lib.hid hv
      have HI := Lib.hid hit
      have HR := Lib.hid hr
      clear hv hit
      rcases hl : ltB it.key key
      · have HH := Lib.hid (Hi.mid hr HI.out hl)
        have hc : 0 ≤ cmpB it.key key := by rw [ltB_cmp, decide_eq_false_iff_not] at hl; omega
        clear hl hr
        go_wp2_with (go_at_call 139; refine (cmpItem_any _ _ _ _ _ _).mono ?_; rintro e w1 ⟨rfl, hb1⟩; have hq := belowNext hb hb1; clear hb1)
        go_roundw
        case rel => exact ⟨i, (i + j) / 2, by omega, by omega, rfl, by go_num, hlo, HH.out, by assumption⟩
        case measure => simp [intOf]; omega
      · have HL := Lib.hid (Lo.mid hr HI.out hl)
        have hc : cmpB it.key key < 0 := by rw [ltB_cmp, decide_eq_true_iff] at hl; exact hl
        clear hl hr
        go_wp2_with (go_at_call 139; refine (cmpItem_any _ _ _ _ _ _).mono ?_; rintro e w1 ⟨rfl, hb1⟩; have hq := belowNext hb hb1; clear hb1)
        go_roundw
        case rel => exact ⟨(i + j) / 2 + 1, j, by omega, by omega, by go_num, rfl, HL.out, hhi, by assumption⟩
        case measure => simp [intOf]; omega
    · obtain rfl : i = j := by omega
      by_cases hil : i < its.length
      · obtain ⟨b, off, d, it, x, e1, hit, hB, hks, ck, cu, hx⟩ := (hv.below hb).at_ (k := i) hil
        obtain ⟨Ax, cx, hxf, _, _⟩ := hx.form
        subst hxf
        injection e1 with e1a e1b e1c
        subst e1a
        have HH := Lib.hid (hitB_cmp (key := key) hit)
        clear e1b e1c hx hv hit hr
        go_wp2_with (go_at_call 139; refine (cmpItem_any _ _ _ _ _ _).mono ?_; rintro e w1 ⟨rfl, hb1⟩; have hq := belowNext hb hb1; clear hb1)
        go_ret2
        exact ⟨i, hj, hlo, hhi, by rw [HH.out]; rfl, by assumption⟩
      · have HH := Lib.hid (hitB_end (its := its) (key := key) (i := i) (by omega))
        clear hv hr
        go_wp2
        go_ret2
        exact ⟨i, hj, hlo, hhi, by rw [HH.out]; rfl, hb⟩

theorem find_any (w : World) (v : Value) (its : List Item) (key : ByteArray) (hv : Items w w.heap.size v its) (hlen : its.length ≤ 1048576) (hr : Rise its its.length) :
    Calls Try.prog 123 #[v, .string key] w fun e w' =>
      ∃ i : Nat, i ≤ its.length ∧ Lo its key i ∧ Hi its key i ∧ e = .returned (.tuple #[.int .i64 i, .bool (hitB its key i)]) ∧ Below w.heap.size w w' := by
  go_enter Try.func123, Try.ntmps123
  go_wp2_with fail
  refine (search_any _ _ _ _ hv hlen hr).mono ?_
  rintro e w1 ⟨i, hi, hlo, hhi, rfl, hb⟩
  have HL := Lib.hid hlo
  have HH := Lib.hid hhi
  clear hlo hhi hr hv
  go_wp2
  go_ret2
  exact ⟨i, hi, HL.out, HH.out, rfl, hb⟩

end Go.Proofs.Ytkamlibfcakblaa
