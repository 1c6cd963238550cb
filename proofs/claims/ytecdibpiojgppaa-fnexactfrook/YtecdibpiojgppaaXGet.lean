/- What StoGet answers, of the program and of the model: the same. -/
import Derived.Test.YtecdibpiojgppaaXFind
import Derived.Test.YtecdibpiojgppaaXOwn
namespace Go.Proofs.Ytecdibpiojgppaa
open Go.RowKit

/-- The first k names are other ones. -/
def Before (its : List Item) (key : ByteArray) (k : Nat) : Prop := ∀ j x, j < k → its[j]? = some x → x.key ≠ key
theorem Before.start (its : List Item) (key : ByteArray) : Before its key 0 := fun j _ h => absurd h (by omega)
theorem Before.step {its : List Item} {key : ByteArray} {k : Nat} {x : Item} (h : Before its key k) (hx : its[k]? = some x) (hn : x.key ≠ key) : Before its key (k + 1) := by
  intro j y hj hy
  rcases Nat.lt_or_ge j k with hlt | hge
  · exact h j y hlt hy
  · have : j = k := by omega
    subst this
    rw [hx] at hy
    injection hy with hy
    rw [← hy]; exact hn
theorem Before.hit {its : List Item} {key : ByteArray} {k : Nat} {x : Item} (h : Before its key k) (hx : its[k]? = some x) (hk : x.key = key) : look its key = some x := by
  unfold look
  rw [List.find?_eq_some_iff_getElem]
  have hl := (List.getElem?_eq_some_iff.1 hx).1
  refine ⟨by simpa using hk, k, hl, by rw [List.getElem?_eq_getElem hl] at hx; exact Option.some.inj hx, fun j hj => ?_⟩
  simp only [Bool.not_eq_eq_eq_not, Bool.not_true, decide_eq_false_iff_not]
  exact h j _ hj (List.getElem?_eq_getElem (by omega))
theorem Before.none_ {its : List Item} {key : ByteArray} (h : Before its key its.length) : look its key = none := by
  unfold look
  rw [List.find?_eq_none]
  intro x hx
  obtain ⟨t, ht, rfl⟩ := List.getElem_of_mem hx
  simp only [decide_eq_true_eq]
  exact h t _ ht (List.getElem?_eq_getElem ht)

/-- The numbers of a name: none where it is not kept. -/
def lookV (its : List Item) (key : ByteArray) : List Int := match look its key with
  | some x => x.val
  | none => []
def lookOk (its : List Item) (key : ByteArray) : Bool := (look its key).isSome
theorem lookV_some {its : List Item} {key : ByteArray} {x : Item} (h : look its key = some x) : lookV its key = x.val := by simp [lookV, h]
theorem lookV_none {its : List Item} {key : ByteArray} (h : look its key = none) : lookV its key = [] := by simp [lookV, h]
theorem lookOk_some {its : List Item} {key : ByteArray} {x : Item} (h : look its key = some x) : lookOk its key = true := by simp [lookOk, h]
theorem lookOk_none {its : List Item} {key : ByteArray} (h : look its key = none) : lookOk its key = false := by simp [lookOk, h]
/-- The answer of StoGet: nothing, and false, where what is kept is not ok. -/
def getV (its : List Item) (key : ByteArray) : List Int := if stoB its then lookV its key else []
def getOk (its : List Item) (key : ByteArray) : Bool := stoB its && lookOk its key
theorem getV_no {its : List Item} {key : ByteArray} (h : stoB its = false) : getV its key = [] := by simp [getV, h]
theorem getOk_no {its : List Item} {key : ByteArray} (h : stoB its = false) : getOk its key = false := by simp [getOk, h]
theorem getV_yes {its : List Item} {key : ByteArray} (h : stoB its = true) : getV its key = lookV its key := by simp [getV, h]
theorem getOk_yes {its : List Item} {key : ByteArray} (h : stoB its = true) : getOk its key = lookOk its key := by simp [getOk, h]
theorem stoB_parts {its : List Item} (h : stoB its = true) : its.length ≤ 40 ∧ Each its its.length ∧ Rise its its.length := by
  unfold stoB at h
  simp only [Bool.and_eq_true, decide_eq_true_eq] at h
  exact ⟨h.1, all_each h.2.1, asc_rise h.2.2⟩
theorem itemB_len {it : Item} (h : itemB it = true) : it.val.length ≤ 3 := by
  unfold itemB valB at h
  simp only [Bool.and_eq_true, decide_eq_true_eq] at h
  exact h.2.1.2

/-- What a look-up leaves. -/
def Got (xs : List Int) (ok : Bool) (w : World) (e : Ending) (w' : World) : Prop :=
  ∃ u, e = .returned (.tuple #[u, .bool ok]) ∧ OwnInts w' w.heap.size u xs ∧ Below w.heap.size w w'

theorem ownEmpty {w0 w : World} (hb : Below w0.heap.size w0 w) : OwnInts (w.alloc (.cells #[] 3)) w0.heap.size (.slice (some ⟨w.heap.size, 0, none⟩) 0 0) [] := OwnInts.empty w _ hb.size
theorem OwnInts.less {w : World} {lo lo' : Nat} {v : Value} {xs : List Int} (h : OwnInts w lo v xs) (hl : lo' ≤ lo) : OwnInts w lo' v xs :=
  ⟨h.1, h.2.elim Or.inl fun ⟨g, cap, cur, hv, hg, r⟩ => Or.inr ⟨g, cap, cur, hv, Nat.le_trans hl hg, r⟩⟩

set_option maxRecDepth 100000 in
theorem l1Get_any (w : World) (v : Value) (its : List Item) (key : ByteArray) (hv : Items w w.heap.size v its) (hs : Short its its.length) :
    Calls Try.prog 181 #[.agg #[v], .string key] w (Got (lookV its key) (lookOk its key) w) := by
  obtain ⟨A, c, rfl, hc2, hc1⟩ := hv.form
  unfold maxLen at hc2
  have HV := Lib.hid (hv.alloc (Nat.le_refl _) (.cells #[.slice A its.length c] 30))
  have HBx := Lib.hid (Held.new w #[.slice A its.length c] 30)
  have HWx := Lib.hid (belowOne w (.cells #[.slice A its.length c] 30))
  clear hv
  go_enter Try.func181, Try.ntmps181
  go_wp2
  have c0 := HBx.out.of 0 _ rfl
  have hzw : w.heap.size < (w.alloc (.cells #[.slice A its.length c] 30)).heap.size := HBx.out.1
  generalize w.alloc (.cells #[.slice A its.length c] 30) = w0 at *
  go_loop [6] (fun i => ∃ k : Nat, k ≤ its.length ∧ i = .int .i64 k ∧ Before its key k) (fun i => its.length - (intOf i).toNat)
  case atStart => exact ⟨0, Nat.zero_le _, rfl, Before.start its key⟩
  case round =>
    obtain ⟨k, hk, rfl, hbf⟩ := hrel
    by_cases hlt : k < its.length
    · obtain ⟨b, off, d, it, x, e1, hit, hB, hks, ck, cu, hx⟩ := HV.out.at_ (k := k) hlt
      obtain ⟨hs1, hs2⟩ := hs k it hlt hit
      obtain ⟨Ax, cx, hxf, _, _⟩ := hx.form
      subst hxf
      injection e1 with e1a e1b e1c
      subst e1a
      have HX := Lib.hid (hx.alloc (Nat.le_of_lt hzw) (.cells #[] 3))
      clear e1b e1c hx hs
      by_cases hkey : it.key = key
      · have HL := Lib.hid (hbf.hit hit hkey)
        have hq : (it.key.toList == key.toList) = true := by rw [eq_toList]; simpa using hkey
        clear hit hkey
        have cu' : (w0.alloc (.cells #[] 3)).cell? ⟨b, off + k * 2 + 1, none⟩ = some (.slice Ax it.val.length cx) := (((Below.refl _ _).alloc (Nat.le_refl _) _).cell (by simp; omega)).trans cu
        have c0' : (w0.alloc (.cells #[] 3)).cell? ⟨w.heap.size, 0, none⟩ = some (.slice (some ⟨b, off, none⟩) its.length c) := (((Below.refl _ _).alloc (Nat.le_refl _) _).cell (by simp; omega)).trans c0
        go_wp2_with (at_builtin; refine wpl_append_ints rfl _ _ rfl w.heap.size _ [] rfl (ownEmpty HWx.out) w.heap.size _ _ it.val rfl HX.out (by simp; omega) (by simp; omega) ?_; intro u w1 hown hg; have HO := Lib.hid hown; have HG := Lib.hid hg; clear hown hg)
        go_ret2
        exact ⟨_, by rw [lookOk_some HL.out]; rfl, by rw [lookV_some HL.out]; exact HO.out, (HWx.out.alloc (Nat.le_of_lt hzw) _).grown HG.out (by simp; omega) (fun k hk => Nat.le_trans (Nat.le_of_lt hzw) (Nat.le_of_eq (Option.some.inj hk)))⟩
      · have HF := Lib.hid (hbf.step hit hkey)
        have hq : (it.key.toList == key.toList) = false := by rw [eq_toList]; simpa using hkey
        clear hit hkey
        go_wp2
        go_round
        case rel => exact ⟨k + 1, by omega, by go_num, HF.out⟩
        case measure => simp [intOf]; omega
    · have HL := Lib.hid (Before.none_ ((show k = its.length by omega) ▸ hbf))
      clear hs
      go_wp2
      go_ret2
      exact ⟨_, by rw [lookOk_none HL.out]; rfl, by rw [lookV_none HL.out]; exact ownEmpty HWx.out, HWx.out.alloc (Nat.le_of_lt hzw) _⟩

theorem ownLo {w : World} {lo : Nat} {v : Value} {xs : List Int} (h : OwnInts w lo v xs) : ∀ b, v.ownBlock = some b → lo ≤ b := fun b hb => (h.lt b hb).1
theorem belowGrown {B : Nat} {w w' : World} {v : Value} (hg : w.grownBy w' v.ownBlock) (h : ∀ b, v.ownBlock = some b → B ≤ b) (hB : B ≤ w.heap.size) : Below B w w' := (Below.refl B w).grown hg hB h

end Go.Proofs.Ytecdibpiojgppaa
