/- Texts that follow each other, merged: Cmp, Find, Get, RegInv. -/
import Derived.Test.YtecdibpiojgppaaGreatXVal
import Derived.Lib.Bytealg
import Derived.Lib.Strings
import Derived.WideShapes
import Derived.Test.YtecdibpiojgppaaGreatXTree
import Derived.Lib.Walk
import Derived.Test.YtecdibpiojgppaaGreatXExItems
import Derived.RegionTactic
import Derived.Orders
import Derived.Laws.AppendOwn

/- How two names compare: plain facts. Nothing of the program. -/
namespace Go.Proofs.YtecdibpiojgppaaGreat
open Go.RowKit

theorem cmp_lt : ∀ x y : List UInt8, Op.bytesLess x y = decide (Lib.compareBytes x y < 0)
  | [], [] => by simp [Op.bytesLess, Lib.compareBytes]
  | [], _ :: _ => by simp [Op.bytesLess, Lib.compareBytes]
  | _ :: _, [] => by simp [Op.bytesLess, Lib.compareBytes]
  | a :: x, b :: y => by
    unfold Op.bytesLess Lib.compareBytes
    rw [cmp_lt x y]
    by_cases h : a < b
    · simp [h]
    · by_cases h' : b < a
      · have hne : (a == b) = false := by
          rw [beq_eq_false_iff_ne]
          rintro rfl; exact h h'
        simp [h, h', hne]
      · have he : a = b := by
          have h1 : ¬ a.toNat < b.toNat := by simpa [UInt8.lt_iff_toNat_lt] using h
          have h2 : ¬ b.toNat < a.toNat := by simpa [UInt8.lt_iff_toNat_lt] using h'
          exact UInt8.toNat_inj.1 (by omega)
        subst he
        simp
theorem cmp_zero : ∀ x y : List UInt8, Lib.compareBytes x y = 0 ↔ x = y
  | [], [] => by simp [Lib.compareBytes]
  | [], _ :: _ => by simp [Lib.compareBytes]
  | _ :: _, [] => by simp [Lib.compareBytes]
  | a :: x, b :: y => by
    unfold Lib.compareBytes
    by_cases h : a < b
    · simp [h]
      rintro rfl; exact absurd h (by simp)
    · by_cases h' : b < a
      · simp [h, h']
        rintro rfl; exact absurd h' (by simp)
      · have he : a = b := by
          have h1 : ¬ a.toNat < b.toNat := by simpa [UInt8.lt_iff_toNat_lt] using h
          have h2 : ¬ b.toNat < a.toNat := by simpa [UInt8.lt_iff_toNat_lt] using h'
          exact UInt8.toNat_inj.1 (by omega)
        subst he
        simp [cmp_zero x y]

theorem cmp_trans : ∀ x y z : List UInt8, Lib.compareBytes x y < 0 → Lib.compareBytes y z < 0 → Lib.compareBytes x z < 0
  | [], [], _, h, _ => by simp [Lib.compareBytes] at h
  | _ :: _, [], _, h, _ => by simp [Lib.compareBytes] at h
  | _, _ :: _, [], _, h => by simp [Lib.compareBytes] at h
  | [], _ :: _, _ :: _, _, _ => by simp [Lib.compareBytes]
  | a :: x, b :: y, c :: z, h, h' => by
    unfold Lib.compareBytes at *
    have key : ∀ {u v : UInt8}, ¬ u < v → ¬ v < u → u = v := fun {u v} h1 h2 => by
      have h1' : ¬ u.toNat < v.toNat := by simpa [UInt8.lt_iff_toNat_lt] using h1
      have h2' : ¬ v.toNat < u.toNat := by simpa [UInt8.lt_iff_toNat_lt] using h2
      exact UInt8.toNat_inj.1 (by omega)
    have tr : ∀ {u v w : UInt8}, u < v → v < w → u < w := fun {u v w} h1 h2 => by
      rw [UInt8.lt_iff_toNat_lt] at *; omega
    by_cases ab : a < b
    · by_cases bc : b < c
      · simp [tr ab bc]
      · by_cases cb : c < b
        · rw [if_neg bc, if_pos cb] at h'; exact absurd h' (by decide)
        · have := key bc cb
          subst this
          simp [ab]
    · by_cases ba : b < a
      · rw [if_neg ab, if_pos ba] at h; exact absurd h (by decide)
      · have := key ab ba
        subst this
        rw [if_neg ab, if_neg ba] at h
        by_cases bc : a < c
        · simp [bc]
        · by_cases cb : c < a
          · rw [if_neg bc, if_pos cb] at h'; exact absurd h' (by decide)
          · rw [if_neg bc, if_neg cb] at h' ⊢
            exact cmp_trans x y z h h'

/-- How two names compare: below 0, 0, above 0. -/
def cmpB (a b : ByteArray) : Int := Lib.compareBytes a.data.toList b.data.toList
theorem ltB_cmp (a b : ByteArray) : ltB a b = decide (cmpB a b < 0) := by unfold ltB cmpB; rw [Lib.toList_data, Lib.toList_data, cmp_lt]
theorem cmpB_zero (a b : ByteArray) : cmpB a b = 0 ↔ a = b := by
  unfold cmpB; rw [cmp_zero]
  exact ⟨fun h => Go.WideShapes.bytes_inj h, fun h => by rw [h]⟩
theorem ltB_trans {a b c : ByteArray} (h : ltB a b = true) (h' : ltB b c = true) : ltB a c = true := by
  rw [ltB_cmp, decide_eq_true_iff] at *
  exact cmp_trans _ _ _ h h'
theorem ltB_irrefl (a : ByteArray) : ltB a a = false := by
  rw [ltB_cmp, (cmpB_zero a a).2 rfl]; rfl
theorem eq_toList {a b : ByteArray} : (a.toList == b.toList) = decide (a = b) := by
  rw [Bool.eq_iff_iff, beq_iff_eq, decide_eq_true_iff, Lib.toList_data, Lib.toList_data]
  exact ⟨fun h => Go.WideShapes.bytes_inj h, fun h => by rw [h]⟩

/-- Of a list whose names rise any name is less than any later one. -/
theorem rise_all {its : List Item} (h : Rise its its.length) : ∀ (d i : Nat) (a b : Item), its[i]? = some a → its[i + d + 1]? = some b → ltB a.key b.key = true
  | 0, i, a, b, ha, hb => h i a b (List.getElem?_eq_some_iff.1 hb).1 ha hb
  | d + 1, i, a, b, ha, hb => by
    have hl : i + (d + 1) + 1 < its.length := (List.getElem?_eq_some_iff.1 hb).1
    have hm : its[i + d + 1]? = some its[i + d + 1] := List.getElem?_eq_getElem (by omega)
    exact ltB_trans (rise_all h d i a _ ha hm) (h (i + d + 1) _ b (by omega) hm (by rw [← hb]; congr 1))
theorem rise_lt {its : List Item} (h : Rise its its.length) {i j : Nat} {a b : Item} (hij : i < j) (ha : its[i]? = some a) (hb : its[j]? = some b) : ltB a.key b.key = true :=
  rise_all h (j - i - 1) i a b ha (by rw [← hb]; congr 1; omega)

/-- The first i names are less than key. -/
def Lo (its : List Item) (key : ByteArray) (i : Nat) : Prop := ∀ t a, t < i → its[t]? = some a → ltB a.key key = true
/-- From place j on no name is less than key. -/
def Hi (its : List Item) (key : ByteArray) (j : Nat) : Prop := ∀ t a, j ≤ t → its[t]? = some a → ltB a.key key = false
theorem Lo.start (its : List Item) (key : ByteArray) : Lo its key 0 := fun t _ h => absurd h (by omega)
theorem Hi.start (its : List Item) (key : ByteArray) : Hi its key its.length := fun t a h ha => by
  have := (List.getElem?_eq_some_iff.1 ha).1
  omega
theorem Lo.mid {its : List Item} {key : ByteArray} (hr : Rise its its.length) {h : Nat} {x : Item} (hx : its[h]? = some x) (hl : ltB x.key key = true) : Lo its key (h + 1) := by
  intro t a ht ha
  rcases Nat.lt_or_ge t h with hlt | hge
  · exact ltB_trans (rise_lt hr hlt ha hx) hl
  · have : t = h := by omega
    subst this
    rw [hx] at ha
    injection ha with ha
    rw [← ha]; exact hl
theorem Hi.mid {its : List Item} {key : ByteArray} (hr : Rise its its.length) {h : Nat} {x : Item} (hx : its[h]? = some x) (hl : ltB x.key key = false) : Hi its key h := by
  intro t a ht ha
  cases hc : ltB a.key key with
  | false => rfl
  | true =>
    rcases Nat.lt_or_ge h t with hlt | hge
    · have := ltB_trans (rise_lt hr hlt hx ha) hc
      rw [hl] at this; exact absurd this (by decide)
    · have : t = h := by omega
      subst this
      rw [hx] at ha
      injection ha with ha
      rw [← ha, hl] at hc; exact absurd hc (by decide)

/-- The thing of a name, if it is kept. -/
def look (its : List Item) (key : ByteArray) : Option Item := its.find? fun it => decide (it.key = key)
theorem look_at {its : List Item} {key : ByteArray} (hr : Rise its its.length) {i : Nat} {x : Item} (hx : its[i]? = some x) (hk : x.key = key) : look its key = some x := by
  unfold look
  rw [List.find?_eq_some_iff_getElem]
  have hl := (List.getElem?_eq_some_iff.1 hx).1
  refine ⟨by simpa using hk, i, hl, by rw [List.getElem?_eq_getElem hl] at hx; exact Option.some.inj hx, fun j hj => ?_⟩
  have := rise_lt hr hj (List.getElem?_eq_getElem (by omega)) hx
  simp only [Bool.not_eq_eq_eq_not, Bool.not_true, decide_eq_false_iff_not]
  intro he
  rw [he, ← hk, ltB_irrefl] at this
  exact absurd this (by decide)
theorem look_none {its : List Item} {key : ByteArray} {i : Nat} (hlo : Lo its key i) (hhi : Hi its key i) (hr : Rise its its.length) (hn : ∀ x, its[i]? = some x → x.key ≠ key) : look its key = none := by
  unfold look
  rw [List.find?_eq_none]
  intro x hx
  obtain ⟨t, ht, rfl⟩ := List.getElem_of_mem hx
  simp only [decide_eq_true_eq]
  intro he
  have hg := List.getElem?_eq_getElem ht
  rcases Nat.lt_trichotomy t i with h | h | h
  · have := hlo t _ h hg
    rw [he, ltB_irrefl] at this; exact absurd this (by decide)
  · subst h
    exact hn _ hg he
  · have hil : i < its.length := by omega
    have hi := List.getElem?_eq_getElem hil
    have h1 := rise_lt hr h hi hg
    rw [he, hhi i _ (Nat.le_refl _) hi] at h1; exact absurd h1 (by decide)

/-- Whether the thing at a place has that name. -/
def hitB (its : List Item) (key : ByteArray) (i : Nat) : Bool := match its[i]? with
  | some x => decide (x.key = key)
  | none => false
theorem hitB_cmp {its : List Item} {key : ByteArray} {i : Nat} {x : Item} (hx : its[i]? = some x) : hitB its key i = (cmpB x.key key == 0) := by
  simp only [hitB, hx]
  rw [Bool.eq_iff_iff, decide_eq_true_iff, beq_iff_eq]
  exact (cmpB_zero _ _).symm
theorem hitB_end {its : List Item} {key : ByteArray} {i : Nat} (h : its.length ≤ i) : hitB its key i = false := by
  simp only [hitB, List.getElem?_eq_none h]
theorem look_hit {its : List Item} {key : ByteArray} (hr : Rise its its.length) {i : Nat} {x : Item} (hx : its[i]? = some x) (hh : hitB its key i = true) : look its key = some x := by
  simp only [hitB, hx, decide_eq_true_eq] at hh
  exact look_at hr hx hh
theorem look_miss {its : List Item} {key : ByteArray} {i : Nat} (hlo : Lo its key i) (hhi : Hi its key i) (hr : Rise its its.length) (hh : hitB its key i = false) : look its key = none :=
  look_none hlo hhi hr fun x hx he => by simp [hitB, hx, he] at hh

end Go.Proofs.YtecdibpiojgppaaGreat

/- The binary search of the program: where a name is, or would have to be. -/
namespace Go.Proofs.YtecdibpiojgppaaGreat
open Go.RowKit

theorem cmp_run (a b : ByteArray) (w : World) : (callFunc 123 #[.string a, .string b]).run Tryz.prog w = .ok (.value (.int .i64 (cmpB a b))) w := by
  rw [run_callFunc_extern Tryz.func123 (by kernel_rfl) (by kernel_rfl) (by kernel_rfl) (e := Extern.BytealgCompare.compare) (by kernel_rfl), Lib.run_compareString]
  rfl

theorem compare_any (a b : ByteArray) (w : World) :
    Calls Tryz.prog 114 #[.string a, .string b] w fun e w' => e = .returned (.int .i64 (cmpB a b)) ∧ w = w' := by
  have h := cmp_run
  go_enter Tryz.func114, Tryz.ntmps114
  go_wp2
  go_ret
  exact ⟨rfl, rfl⟩

theorem cmpItem_any (w : World) (k key : ByteArray) (A : Option Addr) (n c : Nat) :
    Calls Tryz.prog 113 #[.agg #[.string k, .slice A n c], .string key] w fun e w' => e = .returned (.int .i64 (cmpB k key)) ∧ Below w.heap.size w w' := by
  have m1 := method_sortKey
  go_enter Tryz.func113, Tryz.ntmps113
  go_wp2_with (first | (go_at_call 140; refine (sortKey_any _ _ _ _ _).mono ?_; rintro e w' ⟨rfl, hb'⟩; have hq := belowNext (belowOne _ _) hb'; clear hb') | (go_at_call 114; refine (compare_any _ _ _).mono ?_; rintro e w' ⟨rfl, rfl⟩))
  go_ret
  exact ⟨rfl, by assumption⟩

set_option maxRecDepth 100000 in
set_option maxHeartbeats 1000000 in
theorem search_any (w : World) (v : Value) (its : List Item) (key : ByteArray) (hv : Items w w.heap.size v its) (hlen : its.length ≤ 1048576) (hr : Rise its its.length) :
    Calls Tryz.prog 112 #[v, .string key, .func (.func 113) #[] #[]] w fun e w' =>
      ∃ i : Nat, i ≤ its.length ∧ Lo its key i ∧ Hi its key i ∧ e = .returned (.tuple #[.int .i64 i, .bool (hitB its key i)]) ∧ Below w.heap.size w w' := by
  obtain ⟨A, c, rfl, hc2, hc1⟩ := hv.form
  unfold maxLen at hc2
  go_enter Tryz.func112, Tryz.ntmps112
  go_wp2
  go_loopw [9, 10] (fun a b wr => ∃ i j : Nat, i ≤ j ∧ j ≤ its.length ∧ a = .int .i64 i ∧ b = .int .i64 j ∧ Lo its key i ∧ Hi its key j ∧ Below w.heap.size w wr) (fun a b _ => (intOf b).toNat - (intOf a).toNat)
  case atStart => exact ⟨0, its.length, Nat.zero_le _, Nat.le_refl _, rfl, rfl, Lo.start _ _, Hi.start _ _, Below.refl _ _⟩
  case round =>
    obtain ⟨i, j, hij, hj, rfl, rfl, hlo, hhi, hb⟩ := hrel
    by_cases hlt : i < j
    · obtain ⟨b, off, d, it, x, e1, hit, hB, hks, ck, cu, hx⟩ := (hv.below hb).at_ (k := (i + j) / 2) (by omega)
      obtain ⟨Ax, cx, hxf, _, _⟩ := hx.form
      subst hxf
      injection e1 with e1a e1b e1c
      subst e1a
      clear e1b e1c hx
      have HV := Lib.hid hv
      have HI := Lib.hid hit
      have HR := Lib.hid hr
      clear hv hit
      rcases hl : ltB it.key key
      · have HH := Lib.hid (Hi.mid hr HI.out hl)
        have hc : 0 ≤ cmpB it.key key := by rw [ltB_cmp, decide_eq_false_iff_not] at hl; omega
        clear hl hr
        go_wp2_with (go_at_call 113; refine (cmpItem_any _ _ _ _ _ _).mono ?_; rintro e w1 ⟨rfl, hb1⟩; have hq := belowNext hb hb1; clear hb1)
        go_roundw
        case rel => exact ⟨i, (i + j) / 2, by omega, by omega, rfl, by go_num, hlo, HH.out, by assumption⟩
        case measure => simp [intOf]; omega
      · have HL := Lib.hid (Lo.mid hr HI.out hl)
        have hc : cmpB it.key key < 0 := by rw [ltB_cmp, decide_eq_true_iff] at hl; exact hl
        clear hl hr
        go_wp2_with (go_at_call 113; refine (cmpItem_any _ _ _ _ _ _).mono ?_; rintro e w1 ⟨rfl, hb1⟩; have hq := belowNext hb hb1; clear hb1)
        go_roundw
        case rel => exact ⟨(i + j) / 2 + 1, j, by omega, by omega, by go_num, rfl, HL.out, hhi, by assumption⟩
        case measure => simp [intOf]; omega
    · obtain rfl : i = j := by omega
      by_cases hil : i < its.length
      · obtain ⟨b, off, d, it, x, e1, hit, hB, hks, ck, cu, hx⟩ := (hv.below hb).at_ (k := i) hil
        obtain ⟨Ax, cx, hxf, _, _⟩ := hx.form
        subst hxf
        injection e1 with e1a e1b e1c
        subst e1a
        have HH := Lib.hid (hitB_cmp (key := key) hit)
        clear e1b e1c hx hv hit hr
        go_wp2_with (go_at_call 113; refine (cmpItem_any _ _ _ _ _ _).mono ?_; rintro e w1 ⟨rfl, hb1⟩; have hq := belowNext hb hb1; clear hb1)
        go_ret2
        exact ⟨i, hj, hlo, hhi, by rw [HH.out]; rfl, by assumption⟩
      · have HH := Lib.hid (hitB_end (its := its) (key := key) (i := i) (by omega))
        clear hv hr
        go_wp2
        go_ret2
        exact ⟨i, hj, hlo, hhi, by rw [HH.out]; rfl, hb⟩

theorem find_any (w : World) (v : Value) (its : List Item) (key : ByteArray) (hv : Items w w.heap.size v its) (hlen : its.length ≤ 1048576) (hr : Rise its its.length) :
    Calls Tryz.prog 92 #[v, .string key] w fun e w' =>
      ∃ i : Nat, i ≤ its.length ∧ Lo its key i ∧ Hi its key i ∧ e = .returned (.tuple #[.int .i64 i, .bool (hitB its key i)]) ∧ Below w.heap.size w w' := by
  go_enter Tryz.func92, Tryz.ntmps92
  go_wp2_with fail
  refine (search_any _ _ _ _ hv hlen hr).mono ?_
  rintro e w1 ⟨i, hi, hlo, hhi, rfl, hb⟩
  have HL := Lib.hid hlo
  have HH := Lib.hid hhi
  clear hlo hhi hr hv
  go_wp2
  go_ret2
  exact ⟨i, hi, HL.out, HH.out, rfl, hb⟩

end Go.Proofs.YtecdibpiojgppaaGreat

/- What StoGet answers, of the program and of the model: the same. -/
namespace Go.Proofs.YtecdibpiojgppaaGreat
open Go.RowKit

/-- The first k names are other ones. -/
def Before (its : List Item) (key : ByteArray) (k : Nat) : Prop := ∀ j x, j < k → its[j]? = some x → x.key ≠ key
theorem Before.start (its : List Item) (key : ByteArray) : Before its key 0 := fun j _ h => absurd h (by omega)
theorem Before.step {its : List Item} {key : ByteArray} {k : Nat} {x : Item} (h : Before its key k) (hx : its[k]? = some x) (hn : x.key ≠ key) : Before its key (k + 1) := by
  intro j y hj hy
  rcases Nat.lt_or_ge j k with hlt | hge
  · exact h j y hlt hy
  · have : j = k := by omega
    subst this
    rw [hx] at hy
    injection hy with hy
    rw [← hy]; exact hn
theorem Before.hit {its : List Item} {key : ByteArray} {k : Nat} {x : Item} (h : Before its key k) (hx : its[k]? = some x) (hk : x.key = key) : look its key = some x := by
  unfold look
  rw [List.find?_eq_some_iff_getElem]
  have hl := (List.getElem?_eq_some_iff.1 hx).1
  refine ⟨by simpa using hk, k, hl, by rw [List.getElem?_eq_getElem hl] at hx; exact Option.some.inj hx, fun j hj => ?_⟩
  simp only [Bool.not_eq_eq_eq_not, Bool.not_true, decide_eq_false_iff_not]
  exact h j _ hj (List.getElem?_eq_getElem (by omega))
theorem Before.none_ {its : List Item} {key : ByteArray} (h : Before its key its.length) : look its key = none := by
  unfold look
  rw [List.find?_eq_none]
  intro x hx
  obtain ⟨t, ht, rfl⟩ := List.getElem_of_mem hx
  simp only [decide_eq_true_eq]
  exact h t _ ht (List.getElem?_eq_getElem ht)

/-- The numbers of a name: none where it is not kept. -/
def lookV (its : List Item) (key : ByteArray) : List Int := match look its key with
  | some x => x.val
  | none => []
def lookOk (its : List Item) (key : ByteArray) : Bool := (look its key).isSome
theorem lookV_some {its : List Item} {key : ByteArray} {x : Item} (h : look its key = some x) : lookV its key = x.val := by simp [lookV, h]
theorem lookV_none {its : List Item} {key : ByteArray} (h : look its key = none) : lookV its key = [] := by simp [lookV, h]
theorem lookOk_some {its : List Item} {key : ByteArray} {x : Item} (h : look its key = some x) : lookOk its key = true := by simp [lookOk, h]
theorem lookOk_none {its : List Item} {key : ByteArray} (h : look its key = none) : lookOk its key = false := by simp [lookOk, h]
/-- The answer of StoGet: nothing, and false, where what is kept is not ok. -/
def getV (its : List Item) (key : ByteArray) : List Int := if stoB its then lookV its key else []
def getOk (its : List Item) (key : ByteArray) : Bool := stoB its && lookOk its key
theorem getV_no {its : List Item} {key : ByteArray} (h : stoB its = false) : getV its key = [] := by simp [getV, h]
theorem getOk_no {its : List Item} {key : ByteArray} (h : stoB its = false) : getOk its key = false := by simp [getOk, h]
theorem getV_yes {its : List Item} {key : ByteArray} (h : stoB its = true) : getV its key = lookV its key := by simp [getV, h]
theorem getOk_yes {its : List Item} {key : ByteArray} (h : stoB its = true) : getOk its key = lookOk its key := by simp [getOk, h]
theorem stoB_parts {its : List Item} (h : stoB its = true) : its.length ≤ 40 ∧ Each its its.length ∧ Rise its its.length := by
  unfold stoB at h
  simp only [Bool.and_eq_true, decide_eq_true_eq] at h
  exact ⟨h.1, all_each h.2.1, asc_rise h.2.2⟩
theorem itemB_len {it : Item} (h : itemB it = true) : it.val.length ≤ 3 := by
  unfold itemB valB at h
  simp only [Bool.and_eq_true, decide_eq_true_eq] at h
  exact h.2.1.2

/-- What a look-up leaves. -/
def Got (xs : List Int) (ok : Bool) (w : World) (e : Ending) (w' : World) : Prop :=
  ∃ u, e = .returned (.tuple #[u, .bool ok]) ∧ OwnInts w' w.heap.size u xs ∧ Below w.heap.size w w'

theorem ownEmpty {w0 w : World} (hb : Below w0.heap.size w0 w) : OwnInts (w.alloc (.cells #[] 3)) w0.heap.size (.slice (some ⟨w.heap.size, 0, none⟩) 0 0) [] := OwnInts.empty w _ hb.size
theorem OwnInts.less {w : World} {lo lo' : Nat} {v : Value} {xs : List Int} (h : OwnInts w lo v xs) (hl : lo' ≤ lo) : OwnInts w lo' v xs :=
  ⟨h.1, h.2.elim Or.inl fun ⟨g, cap, cur, hv, hg, r⟩ => Or.inr ⟨g, cap, cur, hv, Nat.le_trans hl hg, r⟩⟩

set_option maxRecDepth 100000 in
theorem l1Get_any (w : World) (v : Value) (its : List Item) (key : ByteArray) (hv : Items w w.heap.size v its) (hs : Short its its.length) :
    Calls Tryz.prog 89 #[.agg #[v], .string key] w (Got (lookV its key) (lookOk its key) w) := by
  obtain ⟨A, c, rfl, hc2, hc1⟩ := hv.form
  unfold maxLen at hc2
  have HV := Lib.hid (hv.alloc (Nat.le_refl _) (.cells #[.slice A its.length c] 35))
  have HBx := Lib.hid (Held.new w #[.slice A its.length c] 35)
  have HWx := Lib.hid (belowOne w (.cells #[.slice A its.length c] 35))
  clear hv
  go_enter Tryz.func89, Tryz.ntmps89
  go_wp2
  have c0 := HBx.out.of 0 _ rfl
  have hzw : w.heap.size < (w.alloc (.cells #[.slice A its.length c] 35)).heap.size := HBx.out.1
  generalize w.alloc (.cells #[.slice A its.length c] 35) = w0 at *
  go_loop [6] (fun i => ∃ k : Nat, k ≤ its.length ∧ i = .int .i64 k ∧ Before its key k) (fun i => its.length - (intOf i).toNat)
  case atStart => exact ⟨0, Nat.zero_le _, rfl, Before.start its key⟩
  case round =>
    obtain ⟨k, hk, rfl, hbf⟩ := hrel
    by_cases hlt : k < its.length
    · obtain ⟨b, off, d, it, x, e1, hit, hB, hks, ck, cu, hx⟩ := HV.out.at_ (k := k) hlt
      obtain ⟨hs1, hs2⟩ := hs k it hlt hit
      obtain ⟨Ax, cx, hxf, _, _⟩ := hx.form
      subst hxf
      injection e1 with e1a e1b e1c
      subst e1a
      have HX := Lib.hid (hx.alloc (Nat.le_of_lt hzw) (.cells #[] 3))
      clear e1b e1c hx hs
      by_cases hkey : it.key = key
      · have HL := Lib.hid (hbf.hit hit hkey)
        have hq : (it.key.toList == key.toList) = true := by rw [eq_toList]; simpa using hkey
        clear hit hkey
        have cu' : (w0.alloc (.cells #[] 3)).cell? ⟨b, off + k * 2 + 1, none⟩ = some (.slice Ax it.val.length cx) := (((Below.refl _ _).alloc (Nat.le_refl _) _).cell (by simp; omega)).trans cu
        have c0' : (w0.alloc (.cells #[] 3)).cell? ⟨w.heap.size, 0, none⟩ = some (.slice (some ⟨b, off, none⟩) its.length c) := (((Below.refl _ _).alloc (Nat.le_refl _) _).cell (by simp; omega)).trans c0
        go_wp2_with (at_builtin; refine wpl_append_ints rfl _ _ rfl w.heap.size _ [] rfl (ownEmpty HWx.out) w.heap.size _ _ it.val rfl HX.out (by simp; omega) (by simp; omega) ?_; intro u w1 hown hg; have HO := Lib.hid hown; have HG := Lib.hid hg; clear hown hg)
        go_ret2
        exact ⟨_, by rw [lookOk_some HL.out]; rfl, by rw [lookV_some HL.out]; exact HO.out, (HWx.out.alloc (Nat.le_of_lt hzw) _).grown HG.out (by simp; omega) (fun k hk => Nat.le_trans (Nat.le_of_lt hzw) (Nat.le_of_eq (Option.some.inj hk)))⟩
      · have HF := Lib.hid (hbf.step hit hkey)
        have hq : (it.key.toList == key.toList) = false := by rw [eq_toList]; simpa using hkey
        clear hit hkey
        go_wp2
        go_round
        case rel => exact ⟨k + 1, by omega, by go_num, HF.out⟩
        case measure => simp [intOf]; omega
    · have HL := Lib.hid (Before.none_ ((show k = its.length by omega) ▸ hbf))
      clear hs
      go_wp2
      go_ret2
      exact ⟨_, by rw [lookOk_none HL.out]; rfl, by rw [lookV_none HL.out]; exact ownEmpty HWx.out, HWx.out.alloc (Nat.le_of_lt hzw) _⟩

set_option maxRecDepth 100000 in
theorem implStoGet_any (w : World) (v : Value) (its : List Item) (key : ByteArray) (hv : Items w w.heap.size v its) :
    Calls Tryz.prog 144 #[.agg #[v], .string key] w (Got (getV its key) (getOk its key) w) := by
  obtain ⟨A, c, rfl, hc2, hc1⟩ := hv.form
  unfold maxLen at hc2
  have HV := Lib.hid (hv.alloc (Nat.le_refl _) (.cells #[.slice A its.length c] 35))
  have HBx := Lib.hid (Held.new w #[.slice A its.length c] 35)
  have HWx := Lib.hid (belowOne w (.cells #[.slice A its.length c] 35))
  clear hv
  go_enter Tryz.func144, Tryz.ntmps144
  go_wp2_with fail
  refine (implStoOk_any _ _ _ (HV.out.more (by simp))).mono ?_
  rintro e w1 ⟨rfl, hb1⟩
  have HB1 := Lib.hid (HBx.out.below hb1 HBx.out.1)
  have HV1 := Lib.hid (HV.out.below (hb1.mono (by simp)))
  have HW1 := Lib.hid (belowNext HWx.out hb1)
  clear hb1 HBx HV HWx
  have hz1 : w.heap.size < w1.heap.size := HB1.out.1
  have c0 := HB1.out.of 0 _ rfl
  rcases hok : stoB its
  · have H1 := Lib.hid (getV_no (key := key) hok)
    have H2 := Lib.hid (getOk_no (key := key) hok)
    go_wp2
    go_ret2
    exact ⟨_, by rw [H2.out]; rfl, by rw [H1.out]; exact World.ownsRow_nil _ _ _ _, HW1.out⟩
  · have H1 := Lib.hid (getV_yes (key := key) hok)
    have H2 := Lib.hid (getOk_yes (key := key) hok)
    obtain ⟨h40, heach, hrise⟩ := stoB_parts hok
    have HE := Lib.hid heach
    have HR := Lib.hid hrise
    clear heach hrise
    go_wp2_with fail
    refine (find_any _ _ _ _ (HV1.out.more (Nat.le_of_lt hz1)) (by omega) HR.out).mono ?_
    rintro e w2 ⟨i, hi, hlo, hhi, rfl, hb2⟩
    have HB2 := Lib.hid (HB1.out.below hb2 hz1)
    have HV2 := Lib.hid (HV1.out.below (hb2.mono (Nat.le_of_lt hz1)))
    have HW2 := Lib.hid (belowNext HW1.out hb2)
    have HLo := Lib.hid hlo
    have HHi := Lib.hid hhi
    clear hb2 hlo hhi HB1 HV1 HW1 c0
    have hz2 : w.heap.size < w2.heap.size := HB2.out.1
    have c0 := HB2.out.of 0 _ rfl
    rcases hh : hitB its key i
    · have HL := Lib.hid (look_miss HLo.out HHi.out HR.out hh)
      go_wp2
      go_ret2
      exact ⟨_, by rw [H2.out, lookOk_none HL.out]; rfl, by rw [H1.out, lookV_none HL.out]; exact World.ownsRow_nil _ _ _ _, HW2.out⟩
    · have hil : i < its.length := by
        rcases Nat.lt_or_ge i its.length with h | h
        · exact h
        · rw [hitB_end h] at hh; exact absurd hh (by decide)
      obtain ⟨b, off, d, it, x, e1, hit, hB, hks, ck, cu, hx⟩ := HV2.out.at_ (k := i) hil
      have hlen := itemB_len (HE.out i it hil hit)
      have HL := Lib.hid (look_hit HR.out hit hh)
      obtain ⟨Ax, cx, hxf, _, _⟩ := hx.form
      subst hxf
      injection e1 with e1a e1b e1c
      subst e1a
      have HX := Lib.hid (hx.more (Nat.le_of_lt hz2))
      clear e1b e1c hx hit
      go_wp2_with fail
      refine (clone_any _ _ _ HX.out (by omega)).mono ?_
      rintro e w3 ⟨u, rfl, hown, hb3⟩
      have HO := Lib.hid (hown.less (Nat.le_of_lt hz2))
      have HW3 := Lib.hid (belowNext HW2.out hb3)
      clear hown hb3
      go_wp2
      go_ret2
      exact ⟨_, by rw [H2.out, lookOk_some HL.out]; rfl, by rw [H1.out, lookV_some HL.out]; exact HO.out, HW3.out⟩

theorem ownLo {w : World} {lo : Nat} {v : Value} {xs : List Int} (h : OwnInts w lo v xs) : ∀ b, v.ownBlock = some b → lo ≤ b := fun b hb => (h.lt b hb).1
end Go.Proofs.YtecdibpiojgppaaGreat

/- A region that draws its order, by what holds of its operations that have come up: each operation is shown once, whatever came before it. Nothing of the program. -/
namespace Go.Proofs.YtecdibpiojgppaaGreat

def upd {α : Type} (f : Nat → α) (i : Nat) (x : α) (j : Nat) : α := if j = i then x else f j
theorem upd_same {α : Type} (f : Nat → α) (i : Nat) (x : α) : upd f i x i = x := by simp [upd]
theorem upd_other {α : Type} (f : Nat → α) {i j : Nat} (x : α) (h : j ≠ i) : upd f i x j = f j := by simp [upd, h]

section
variable {P : Program} {ops : Array Oper} {Q : Exit → Act → World → Prop}

def left (l : Array Bool) : Nat := (l.toList.filter (! ·)).length
theorem left_set {l : Array Bool} {i : Nat} (h : l[i]? = some false) : left (l.setIfInBounds i true) + 1 = left l := by
  obtain ⟨l⟩ := l
  unfold left
  simp only [List.setIfInBounds_toArray] at *
  simp at h
  induction l generalizing i with
  | nil => simp at h
  | cons b l ih =>
    cases i with
    | zero =>
      simp at h
      subst h
      simp
    | succ i =>
      simp at h
      have := ih h
      cases b <;> simp at this ⊢ <;> omega

/-- Each operation keeps I, whatever has come up before it; behind all I gives the post. -/
theorem wpAny_inv (I : (Nat → Bool) → Act → World → Prop)
    (hback : ∀ (i : Nat) (o : Oper), ops[i]? = some o → ∀ e ∈ o.after, e.on < i)
    (hstep : ∀ (L : Nat → Bool) (a : Act) (w : World) (i : Nat) (o : Oper), ops[i]? = some o → L i = false → (∀ e ∈ o.after, L e.on = true) → I L a w →
      ∀ K : Act → World → Prop, (∀ a' w', I (upd L i true) a' w' → K a' w') → if Region.wanted o (yielded ops a.tmps) = true then Oper.wp P o a w K Q else K (a.put o.dst undef) w)
    (hall : ∀ (i : Nat) (o : Oper), ops[i]? = some o → ∀ e ∈ o.after, Region.binds .any e = true)
    (hend : ∀ L a w, (∀ i, i < ops.size → L i = true) → I L a w → Q .normal a w) :
    ∀ (fuel : Nat) (l : Array Bool) (a : Act) (w : World), l.size = ops.size → left l ≤ fuel → I (fun j => l.getD j false) a w → wpAny P .any ops Q fuel l a w := by
  have hdone : ∀ (l : Array Bool), l.size = ops.size → Region.ready .any ops l = [] → ∀ i, i < ops.size → l.getD i false = true := by
    intro l hl hr i
    induction i using Nat.strongRecOn with
    | _ i ih =>
      intro hi
      cases hc : l.getD i false with
      | true => rfl
      | false =>
        have ho : ops[i]? = some ops[i] := Array.getElem?_eq_getElem hi
        have hm : i ∈ Region.ready .any ops l := by
          rw [mem_ready]
          refine ⟨?_, ops[i], ho, ?_⟩
          · simp only [Array.getD_eq_getD_getElem?] at hc ⊢
            rw [Array.getElem?_eq_getElem (by omega)] at hc ⊢
            simpa using hc
          · intro e he _
            exact ih e.on (hback i _ ho e he) (Nat.lt_trans (hback i _ ho e he) hi)
        rw [hr] at hm
        cases hm
  intro fuel
  induction fuel with
  | zero =>
    intro l a w hl hn hI
    have hr : Region.ready .any ops l = [] := by
      cases hr : Region.ready .any ops l with
      | nil => rfl
      | cons i rs =>
        have hm : i ∈ Region.ready .any ops l := by rw [hr]; simp
        obtain ⟨h1, o, ho, _⟩ := mem_ready.1 hm
        have hi : i < l.size := by rw [hl]; exact (Array.getElem?_eq_some_iff.1 ho).1
        have hf : l[i]? = some false := by
          rw [Array.getElem?_eq_getElem hi]
          simp only [Array.getD_eq_getD_getElem?, Array.getElem?_eq_getElem hi] at h1
          simpa using h1
        have := left_set hf
        omega
    exact ⟨hr, hend _ a w (hdone l hl hr) hI⟩
  | succ fuel ih =>
    intro l a w hl hn hI
    refine ⟨fun hr => hend _ a w (hdone l hl hr) hI, fun i hi => ?_⟩
    obtain ⟨h1, o, ho, h2⟩ := mem_ready.1 hi
    have hil : i < l.size := by rw [hl]; exact (Array.getElem?_eq_some_iff.1 ho).1
    have hf : l[i]? = some false := by
      rw [Array.getElem?_eq_getElem hil]
      simp only [Array.getD_eq_getD_getElem?, Array.getElem?_eq_getElem hil] at h1
      simpa using h1
    refine wpOp_step ho fun K hK => ?_
    refine hstep (fun j => l.getD j false) a w i o ho (by simp [Array.getD_eq_getD_getElem?, hf]) (fun e he => h2 e he (hall i o ho e he)) hI K fun a' w' h => hK a' w' ?_
    refine ih _ a' w' (by simpa using hl) (by have := left_set hf; omega) ?_
    have he : (fun j => (l.setIfInBounds i true).getD j false) = upd (fun j => l.getD j false) i true := by
      funext j
      simp only [Array.getD_eq_getD_getElem?, Array.getElem?_setIfInBounds, upd]
      by_cases hj : i = j
      · subst hj; simp [hil]
      · simp [hj, Ne.symm hj]
    rw [he]
    exact h

theorem wp_region_inv {id : Nat} {a : Act} {w : World} (hm : P.follows .mixedOrders = true) (I : (Nat → Bool) → Act → World → Prop)
    (hback : ∀ (i : Nat) (o : Oper), ops[i]? = some o → ∀ e ∈ o.after, e.on < i)
    (hall : ∀ (i : Nat) (o : Oper), ops[i]? = some o → ∀ e ∈ o.after, Region.binds .any e = true)
    (h0 : I (fun _ => false) a w.drew)
    (hstep : ∀ (L : Nat → Bool) (a : Act) (w : World) (i : Nat) (o : Oper), ops[i]? = some o → L i = false → (∀ e ∈ o.after, L e.on = true) → I L a w →
      ∀ K : Act → World → Prop, (∀ a' w', I (upd L i true) a' w' → K a' w') → if Region.wanted o (yielded ops a.tmps) = true then Oper.wp P o a w K Q else K (a.put o.dst undef) w)
    (hend : ∀ L a w, (∀ i, i < ops.size → L i = true) → I L a w → Q .normal a w) : (Code.region id ops true).wp P Q a w := by
  refine wp_region_any hm (wpAny_inv I hback hstep hall hend _ _ _ _ (by simp) ?_ ?_)
  · unfold left; exact Nat.le_trans (List.length_filter_le _ _) (by simp)
  · have he : (fun j => (Array.replicate ops.size false).getD j false) = fun _ => false := by
      funext j
      simp only [Array.getD_eq_getD_getElem?, Array.getElem?_replicate]
      split <;> rfl
    rw [he]; exact h0
end

/-- What has come up has come up behind all that it waits for. -/
def Down (ops : Array Oper) (L : Nat → Bool) : Prop := ∀ (i : Nat) (o : Oper), ops[i]? = some o → L i = true → ∀ e ∈ o.after, L e.on = true
theorem Down.upd {ops : Array Oper} {L : Nat → Bool} {i : Nat} {o : Oper} (h : Down ops L) (ho : ops[i]? = some o) (hp : ∀ e ∈ o.after, L e.on = true) : Down ops (upd L i true) := by
  intro j oj hj hL e he
  by_cases e1 : e.on = i
  · rw [e1, upd_same]
  · rw [upd_other _ _ e1]
    by_cases e2 : j = i
    · subst e2
      rw [ho] at hj
      injection hj with hj
      subst hj
      exact hp e he
    · rw [upd_other _ _ e2] at hL
      exact h j oj hj hL e he
theorem wp_region_inv2 {P : Program} {ops : Array Oper} {Q : Exit → Act → World → Prop} {id : Nat} {a : Act} {w : World} (hm : P.follows .mixedOrders = true) (I : (Nat → Bool) → Act → World → Prop)
    (hback : ∀ (i : Nat) (o : Oper), ops[i]? = some o → ∀ e ∈ o.after, e.on < i)
    (hall : ∀ (i : Nat) (o : Oper), ops[i]? = some o → ∀ e ∈ o.after, Region.binds .any e = true)
    (h0 : I (fun _ => false) a w.drew)
    (hstep : ∀ (L : Nat → Bool) (a : Act) (w : World) (i : Nat) (o : Oper), ops[i]? = some o → L i = false → (∀ e ∈ o.after, L e.on = true) → Down ops L → I L a w →
      ∀ K : Act → World → Prop, (∀ a' w', I (upd L i true) a' w' → K a' w') → if Region.wanted o (yielded ops a.tmps) = true then Oper.wp P o a w K Q else K (a.put o.dst undef) w)
    (hend : ∀ L a w, (∀ i, i < ops.size → L i = true) → I L a w → Q .normal a w) : (Code.region id ops true).wp P Q a w :=
  wp_region_inv hm (fun L a w => Down ops L ∧ I L a w) hback hall ⟨fun _ _ _ h => by simp at h, h0⟩
    (fun L a w i o ho hL hp hI K hK => hstep L a w i o ho hL hp hI.1 hI.2 K fun a' w' h => hK a' w' ⟨hI.1.upd ho hp, h⟩)
    (fun L a w hL hI => hend L a w hL hI.2)

/-- All edges of a region go back, and bind. -/
def backB (ops : Array Oper) : Bool := (List.range ops.size).all fun i => match ops[i]? with
  | some o => o.after.all fun e => decide (e.on < i) && Region.binds .any e
  | none => true
theorem backB_at {ops : Array Oper} (h : backB ops = true) (i : Nat) (o : Oper) (ho : ops[i]? = some o) : ∀ e ∈ o.after, e.on < i ∧ Region.binds .any e = true := by
  intro e he
  have hi : i < ops.size := (Array.getElem?_eq_some_iff.1 ho).1
  have := List.all_eq_true.1 h i (List.mem_range.2 hi)
  simp only [ho] at this
  have := Array.all_eq_true_iff_forall_mem.1 this e he
  simpa using this

/-- The slots of a region's operations, what each is good for, and what holds of the world. -/
def RInv (frame : (Nat → Value) → Array Value) (Good : Nat → World → Value → Prop) (Wd : (Nat → Bool) → World → Prop) (L : Nat → Bool) (a : Act) (w : World) : Prop :=
  ∃ U : Nat → Value, a = { tmps := frame U, defers := [] } ∧ (∀ j, L j = true → Good j w (U j)) ∧ Wd L w
theorem RInv.next {Good : Nat → World → Value → Prop} {L : Nat → Bool} {U : Nat → Value} {w w' : World} {i : Nat} {v : Value} (hG : ∀ j, L j = true → Good j w (U j)) (hst : ∀ j u, Good j w u → Good j w' u) (hv : Good i w' v) :
    ∀ j, upd L i true j = true → Good j w' (upd U i v j) := by
  intro j hj
  by_cases e : j = i
  · subst e; rw [upd_same]; exact hv
  · rw [upd_other _ _ e]; rw [upd_other _ _ e] at hj; exact hst j _ (hG j hj)

end Go.Proofs.YtecdibpiojgppaaGreat
