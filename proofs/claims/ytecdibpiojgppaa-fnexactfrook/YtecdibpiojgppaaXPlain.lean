/- The plain functions of the store, over bytes and integers: nothing of the program. -/
namespace Go.Proofs.Ytecdibpiojgppaa

/-- The bytes from place 1 up to k are digits. -/
def Digs (s : ByteArray) (k : Nat) : Prop := ∀ j, ∀ h : j < s.size, 1 ≤ j → j < k → 48 ≤ (s[j]'h).toNat ∧ (s[j]'h).toNat ≤ 57

/-- A name: a small letter, and one or two digits. -/
def keyB (s : ByteArray) : Bool :=
  decide (2 ≤ s.size ∧ s.size ≤ 3 ∧ (∀ h : 0 < s.size, 97 ≤ (s[0]'h).toNat ∧ (s[0]'h).toNat ≤ 122) ∧ ∀ j, ∀ h : j < s.size, 1 ≤ j → 48 ≤ (s[j]'h).toNat ∧ (s[j]'h).toNat ≤ 57)

theorem keyB_size {s : ByteArray} (h : (s.size : Int) < 2 ∨ 3 < (s.size : Int)) : keyB s = false := by
  unfold keyB; rw [decide_eq_false_iff_not]; rintro ⟨a, b, _⟩; omega
theorem keyB_head {s : ByteArray} (h0 : 0 < s.size) (h : ((s[0]'h0).toNat : Int) < 97 ∨ 122 < ((s[0]'h0).toNat : Int)) : keyB s = false := by
  unfold keyB; rw [decide_eq_false_iff_not]; rintro ⟨_, _, c, _⟩; have := c h0; omega
theorem keyB_digit {s : ByteArray} {k : Nat} (hk : k < s.size) (h1 : 1 ≤ k) (h : ((s[k]'hk).toNat : Int) < 48 ∨ 57 < ((s[k]'hk).toNat : Int)) : keyB s = false := by
  unfold keyB; rw [decide_eq_false_iff_not]; rintro ⟨_, _, _, d⟩; have := d k hk h1; omega
theorem keyB_yes {s : ByteArray} (h2 : 2 ≤ (s.size : Int)) (h3 : (s.size : Int) ≤ 3) (h0 : 0 < s.size) (ha : 97 ≤ ((s[0]'h0).toNat : Int)) (hz : ((s[0]'h0).toNat : Int) ≤ 122) (hd : Digs s s.size) : keyB s = true := by
  unfold keyB; rw [decide_eq_true_iff]; exact ⟨by omega, by omega, fun _ => ⟨by omega, by omega⟩, fun j h h1 => hd j h h1 h⟩
theorem Digs.start (s : ByteArray) : Digs s 1 := fun j _ h1 h => absurd h (by omega)
theorem Digs.step {s : ByteArray} {k : Nat} (h : Digs s k) (hk : k < s.size) (ha : 48 ≤ ((s[k]'hk).toNat : Int)) (hz : ((s[k]'hk).toNat : Int) ≤ 57) : Digs s (k + 1) := by
  intro j hj h1 hjk
  rcases Nat.lt_or_ge j k with hlt | hge
  · exact h j hj h1 hlt
  · have : j = k := by omega
    subst this
    exact ⟨by omega, by omega⟩
theorem keyB_le {s : ByteArray} (h : keyB s = true) : s.size ≤ 3 := by
  unfold keyB at h; rw [decide_eq_true_iff] at h; exact h.2.1

/-- Whether a number is in bounds. -/
def inB (n lo hi : Int) : Bool := decide (lo ≤ n ∧ n ≤ hi)
theorem inB_yes {n lo hi : Int} (h : lo ≤ n) (h' : n ≤ hi) : inB n lo hi = true := by unfold inB; rw [decide_eq_true_iff]; exact ⟨h, h'⟩
theorem inB_no {n lo hi : Int} (h : n < lo ∨ hi < n) : inB n lo hi = false := by unfold inB; rw [decide_eq_false_iff_not]; omega
/-- The number at a place. -/
def nth (l : List Int) (j : Nat) : Int := l[j]?.getD 0
theorem nth_get {l : List Int} {j : Nat} (h : j < l.length) : nth l j = l[j] := by unfold nth; rw [List.getElem?_eq_getElem h]; rfl

/-- The numbers of a thing: one to three, each from 0 to 9999. -/
def valB (l : List Int) : Bool :=
  decide (1 ≤ l.length ∧ l.length ≤ 3) && l.all fun n => decide (0 ≤ n ∧ n ≤ 9999)
/-- The first k numbers are ones. -/
def Nums (l : List Int) (k : Nat) : Prop := ∀ j, j < k → j < l.length → 0 ≤ nth l j ∧ nth l j ≤ 9999
theorem Nums.start (l : List Int) : Nums l 0 := fun j h => absurd h (by omega)
theorem Nums.step {l : List Int} {k : Nat} (h : Nums l k) (h0 : 0 ≤ nth l k) (h1 : nth l k ≤ 9999) : Nums l (k + 1) := by
  intro j hj hl
  rcases Nat.lt_or_ge j k with hlt | hge
  · exact h j hlt hl
  · have : j = k := by omega
    subst this; exact ⟨h0, h1⟩
theorem valB_size {l : List Int} (h : l.length < 1 ∨ 3 < l.length) : valB l = false := by
  unfold valB; rw [Bool.and_eq_false_iff]; left; rw [decide_eq_false_iff_not]; omega
theorem valB_bad {l : List Int} {k : Nat} (hk : k < l.length) (h : nth l k < 0 ∨ 9999 < nth l k) : valB l = false := by
  unfold valB; rw [Bool.and_eq_false_iff]; right; rw [List.all_eq_false]
  refine ⟨l[k], List.getElem_mem hk, ?_⟩
  rw [nth_get hk] at h
  simp only [decide_eq_true_eq]; omega
theorem valB_nums {l : List Int} (h : Nums l l.length) : valB l = decide (1 ≤ l.length ∧ l.length ≤ 3) := by
  unfold valB
  have : (l.all fun n => decide (0 ≤ n ∧ n ≤ 9999)) = true := by
    rw [List.all_eq_true]
    intro x hx
    obtain ⟨j, hj, rfl⟩ := List.getElem_of_mem hx
    have := h j hj hj
    rw [nth_get hj] at this
    simpa using this
  rw [this, Bool.and_true]
theorem valB_in {l : List Int} (h : Nums l l.length) : valB l = inB (l.length : Int) 1 3 := by
  rw [valB_nums h]; unfold inB; rw [Bool.eq_iff_iff]; simp only [decide_eq_true_iff]; omega
theorem valB_yes {l : List Int} (h : Nums l l.length) (h1 : 1 ≤ l.length) (h3 : l.length ≤ 3) : valB l = true := by
  rw [valB_nums h]; simp; omega

/-- The first k numbers of two lists are the same. -/
def Same (xs ys : List Int) (k : Nat) : Prop := ∀ j, j < k → nth xs j = nth ys j
theorem Same.start (xs ys : List Int) : Same xs ys 0 := fun j h => absurd h (by omega)
theorem Same.step {xs ys : List Int} {k : Nat} (h : Same xs ys k) (e : nth xs k = nth ys k) : Same xs ys (k + 1) := by
  intro j hj
  rcases Nat.lt_or_ge j k with hlt | hge
  · exact h j hlt
  · have : j = k := by omega
    subst this; exact e
theorem Same.eq {xs ys : List Int} (h : Same xs ys xs.length) (hl : xs.length = ys.length) : xs = ys := by
  apply List.ext_getElem hl
  intro j h1 h2
  have := h j h1
  rw [nth_get h1, nth_get h2] at this
  exact this
theorem nth_ne {xs ys : List Int} {k : Nat} (h : nth xs k ≠ nth ys k) : xs ≠ ys := fun e => h (by rw [e])
theorem len_ne {xs ys : List Int} (h : xs.length ≠ ys.length) : xs ≠ ys := fun e => h (by rw [e])

/-- What is left behind n more; -1 where that is less than none. -/
def less (left n : Int) : Int := if left < n then -1 else left - n
theorem less_no {left n : Int} (h : left < n) : less left n = -1 := by unfold less; rw [if_pos h]
theorem less_yes {left n : Int} (h : n ≤ left) : less left n = left - n := by unfold less; rw [if_neg (by omega)]

end Go.Proofs.Ytecdibpiojgppaa
