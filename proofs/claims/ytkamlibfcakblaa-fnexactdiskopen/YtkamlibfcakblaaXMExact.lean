/- Texts that follow each other, merged: MExact, ExKit, OpenF, MarkedSl. -/
import Derived.Test.YtkamlibfcakblaaXIOpen
import Derived.Test.YtkamlibfcakblaaXMLogNote
import Derived.Test.YtkamlibfcakblaaXHLogDisk
import Derived.Test.YtkamlibfcakblaaXShOwn
import Derived.Test.YtkamlibfcakblaaXGoes
import Derived.Test.YtkamlibfcakblaaXWrts

/- Marks on a place's notes and on a note, as records. -/
namespace Go.Proofs.Ytkamlibfcakblaa
open Go.RowKit

/-- What marking a record leaves. -/
def MarkedAg {α : Type} (A : Sh α) (cn : α → Nat) (mk : Int → α → Prop) (S : Nat → Prop) (cs : List Value) (x : α) (k : Int) (w : World) (e : Ending) (w' : World) : Prop :=
  ∃ y, e = .returned (.int .i64 (k + cn x)) ∧ cn y = cn x ∧ mk k y ∧ A.own w' S cs y ∧ Outs S w w'
set_option maxRecDepth 100000 in
theorem markLogDisk_r (w : World) (S : Nat → Prop) (cs : List Value) (x : Disk) (hv : diskSh.own w S cs x) (k : Int) (hl : diskSh.wt x ≤ 1048576) (h0 : 1 ≤ k) (h1 : k + 16 * (diskSh.wt x : Int) ≤ 1000000000000000) :
    Calls Try.prog 43 #[.agg cs.toArray, .int .i64 k] w (MarkedAg diskSh dCnt dMk S cs x k w) := by
  have hwt := wtLogDisk x
  obtain ⟨u, rfl, hu⟩ := disk_own.1 hv
  obtain ⟨A, c, rfl, -, -⟩ := hu.row.form
  have HV := Lib.hid (hu.below (belowOne w (.cells #[.slice A x.notes.length c, .int .i64 x.safe] 25)))
  clear hv hu
  go_enter Try.func43, Try.ntmps43
  go_wp2_with fail
  refine (markLogNoteS_sh _ S _ x.notes HV.out k (by omega) h0 (by omega)).mono ?_
  rintro e w1 ⟨ys, rfl, hy1, hy2, hy3, hy4, hy5⟩
  have HF := Lib.hid (And.intro hy1 (And.intro hy2 (And.intro hy3 (And.intro hy4 hy5))))
  clear hy1 hy2 hy3 hy4 hy5
  go_wp2
  go_ret
  obtain ⟨hy1, hy2, hy3, hy4, hy5⟩ := HF.out
  exact ⟨⟨ys, x.safe⟩, rfl, hy2, hy3, disk_own.2 ⟨_, rfl, hy4⟩, (Outs.of_below (belowOne w _)).trans hy5⟩
end Go.Proofs.Ytkamlibfcakblaa

/- How what is owned, or read, is carried through a call, and through the marks on other blocks. Nothing of the program. -/
namespace Go.Proofs.Ytkamlibfcakblaa
open Go.RowKit

section
variable {α : Type} {A : Sh α} {w w' : World} {S T : Nat → Prop} {B n : Nat} {cs : List Value} {x : α} {e : TypeId} {v : Value} {xs : List α}
theorem own_call (h : A.own w S cs x) (hb : Below w.heap.size w w') : A.own w' S cs x := A.okeep h fun b _ hlt => hb.block b hlt
theorem own_mark (h : A.own w S cs x) (ht : Outs T w w') (hd : ∀ b, S b → T b → False) : A.own w' S cs x := A.okeep h fun b hb hlt => ht.block b hlt fun h => hd b hb h
theorem rel_call (h : A.rel w B cs x) (hb : Below w.heap.size w w') (hB : B ≤ w.heap.size) : A.rel w' B cs x := A.rbelow h (hb.mono hB)
theorem rel_mark (h : A.rel w B cs x) (ht : Outs T w w') (hB : B ≤ w.heap.size) (hd : ∀ b, T b → B ≤ b) : A.rel w' B cs x :=
  A.rkeep h fun b o hb => World.cell?_of_block (a := ⟨b, o, none⟩) (ht.block b (by omega) fun h => by have := hd b h; omega)
theorem own_sl_call (h : A.Own e w S v xs) (hb : Below w.heap.size w w') : A.Own e w' S v xs := h.keep fun b _ hlt => hb.block b hlt
theorem own_sl_mark (h : A.Own e w S v xs) (ht : Outs T w w') (hd : ∀ b, S b → T b → False) : A.Own e w' S v xs := h.keep fun b hb hlt => ht.block b hlt fun h => hd b hb h
theorem row_call (h : A.Row w B v xs) (hb : Below w.heap.size w w') (hB : B ≤ w.heap.size) : A.Row w' B v xs := h.below (hb.mono hB)
theorem row_mark (h : A.Row w B v xs) (ht : Outs T w w') (hB : B ≤ w.heap.size) (hd : ∀ b, T b → B ≤ b) : A.Row w' B v xs :=
  h.keep fun b o hb => World.cell?_of_block (a := ⟨b, o, none⟩) (ht.block b (by omega) fun h => by have := hd b h; omega)
theorem below_mark (h : Below n w w') {w2 : World} (ht : Outs T w' w2) (hn : n ≤ w'.heap.size) (hd : ∀ b, T b → n ≤ b) : Below n w w2 := h.trans (ht.below hn hd)
end

end Go.Proofs.Ytkamlibfcakblaa

/- What is open and locked, of the plain lists: just those who are ready, each name once. -/
namespace Go.Proofs.Ytkamlibfcakblaa

theorem memB_iff {xs : List Int} {n : Int} : memB xs n = true ↔ n ∈ xs := by unfold memB; exact List.contains_iff_mem
theorem hasB_iff {l : List ByteArray} {s : ByteArray} : hasB l s = true ↔ s ∈ l := by
  unfold hasB; rw [List.any_eq_true]
  constructor
  · rintro ⟨x, hx, e⟩; have := of_decide_eq_true e; exact this ▸ hx
  · intro h; exact ⟨s, h, by simp⟩
theorem mem_addI {xs : List Int} {n m : Int} : m ∈ addI xs n ↔ m ∈ xs ∨ m = n := by
  unfold addI
  split
  · rename_i h
    have := memB_iff.1 h
    constructor
    · exact .inl
    · rintro (h | rfl)
      · exact h
      · exact this
  · simp
theorem mem_addS {xs : List ByteArray} {n m : ByteArray} : m ∈ addS xs n ↔ m ∈ xs ∨ m = n := by
  unfold addS
  split
  · rename_i h
    have := hasB_iff.1 h
    constructor
    · exact .inl
    · rintro (h | rfl)
      · exact h
      · exact this
  · simp
theorem mem_foldI {m : Int} : ∀ (ys : List Note) (o : List Int), m ∈ ys.foldl (fun o n => addI o n.tx) o ↔ m ∈ o ∨ ∃ y ∈ ys, y.tx = m
  | [], _ => by simp
  | y :: ys, o => by
    rw [List.foldl_cons, mem_foldI ys, mem_addI]
    constructor
    · rintro ((h | rfl) | ⟨z, hz, e⟩)
      · exact .inl h
      · exact .inr ⟨y, by simp, rfl⟩
      · exact .inr ⟨z, by simp [hz], e⟩
    · rintro (h | ⟨z, hz, e⟩)
      · exact .inl (.inl h)
      · rcases List.mem_cons.1 hz with rfl | hz
        · exact .inl (.inr e.symm)
        · exact .inr ⟨z, hz, e⟩
theorem mem_opensTx {m : Int} {ys : List Note} : m ∈ opensTx ys ↔ ∃ y ∈ ys, y.tx = m := by unfold opensTx; rw [mem_foldI]; simp
theorem mem_addAll {m : ByteArray} : ∀ (ls xs : List ByteArray), m ∈ addAll xs ls ↔ m ∈ xs ∨ m ∈ ls
  | [], _ => by simp [addAll]
  | l :: ls, xs => by
    have e : addAll xs (l :: ls) = addAll (addS xs l) ls := rfl
    rw [e, mem_addAll ls, mem_addS, List.mem_cons, or_assoc]
theorem mem_foldS {m : ByteArray} : ∀ (ys : List Note) (o : List ByteArray), m ∈ ys.foldl (fun o n => addAll o n.locks) o ↔ m ∈ o ∨ ∃ y ∈ ys, m ∈ y.locks
  | [], _ => by simp
  | y :: ys, o => by
    rw [List.foldl_cons, mem_foldS ys, mem_addAll]
    constructor
    · rintro ((h | h) | ⟨z, hz, e⟩)
      · exact .inl h
      · exact .inr ⟨y, by simp, h⟩
      · exact .inr ⟨z, by simp [hz], e⟩
    · rintro (h | ⟨z, hz, e⟩)
      · exact .inl (.inl h)
      · rcases List.mem_cons.1 hz with rfl | hz
        · exact .inl (.inr e)
        · exact .inr ⟨z, hz, e⟩
theorem mem_opensKeys {m : ByteArray} {ys : List Note} : m ∈ opensKeys ys ↔ ∃ y ∈ ys, m ∈ y.locks := by unfold opensKeys; rw [mem_foldS]; simp
theorem nodup_addS {xs : List ByteArray} {n : ByteArray} (h : xs.Nodup) : (addS xs n).Nodup := by
  unfold addS
  split
  · exact h
  · rename_i hn
    rw [List.nodup_append]
    refine ⟨h, by simp, fun a ha b hb e => hn (hasB_iff.2 ?_)⟩
    have hbn := List.mem_singleton.1 hb
    subst hbn
    exact e ▸ ha
theorem nodup_addAll : ∀ (ls xs : List ByteArray), xs.Nodup → (addAll xs ls).Nodup
  | [], _, h => h
  | l :: ls, xs, h => nodup_addAll ls (addS xs l) (nodup_addS h)
theorem nodup_foldS : ∀ (ys : List Note) (o : List ByteArray), o.Nodup → (ys.foldl (fun o n => addAll o n.locks) o).Nodup
  | [], _, h => h
  | y :: ys, o, h => nodup_foldS ys (addAll o y.locks) (nodup_addAll y.locks o h)
theorem nodup_opensKeys (ys : List Note) : (opensKeys ys).Nodup := nodup_foldS ys [] List.nodup_nil

theorem foldK_mem {tx : Int} : ∀ (ns : List Note) (h : Int), (ns.foldl (stepK tx) h = h) ∨ ∃ y ∈ ns, hitK tx y = true ∧ ns.foldl (stepK tx) h = y.kind
  | [], _ => .inl rfl
  | n :: ns, h => by
    rw [List.foldl_cons]
    rcases foldK_mem ns (stepK tx h n) with e | ⟨y, hy, hh, e⟩
    · by_cases hn : hitK tx n = true
      · exact .inr ⟨n, by simp, hn, by rw [e]; simp [stepK, hn]⟩
      · exact .inl (by rw [e]; simp [stepK, hn])
    · exact .inr ⟨y, by simp [hy], hh, e⟩
/-- Whoever is ready, and no more, has a note of that. -/
theorem last_ready {ns : List Note} {tx : Int} (h : lastK ns tx = 1) : ∃ y ∈ ns, y.kind = 1 ∧ y.tx = tx := by
  unfold lastK at h
  rcases foldK_mem ns 0 (tx := tx) with e | ⟨y, hy, hh, e⟩
  · rw [e] at h; cases h
  · unfold hitK at hh
    simp only [Bool.and_eq_true, decide_eq_true_eq] at hh
    exact ⟨y, hy, by omega, hh.1⟩
theorem mem_inD {ns : List Note} {y : Note} : y ∈ inD ns ns.length ↔ y ∈ ns ∧ y.kind = 1 ∧ lastK ns y.tx = 1 := by
  rw [inD_all, List.mem_filter]
  unfold openB
  simp
theorem mem_openD {x : Disk} (h : diskB x = true) {tx : Int} : tx ∈ openD x ↔ lastK x.notes tx = 1 := by
  rw [openD_yes h, mem_opensTx]
  constructor
  · rintro ⟨y, hy, rfl⟩; exact (mem_inD.1 hy).2.2
  · intro hl
    obtain ⟨y, hy, hk, rfl⟩ := last_ready hl
    exact ⟨y, mem_inD.2 ⟨hy, hk, hl⟩, rfl⟩
theorem memB_openD {x : Disk} (h : diskB x = true) (tx : Int) : memB (openD x) tx = (ofD x tx == 1) := by
  rw [ofD_yes h]
  cases e : memB (openD x) tx with
  | true => have := (mem_openD h).1 (memB_iff.1 e); simp [this]
  | false =>
    have hn : ¬ lastK x.notes tx = 1 := fun hl => by
      have := memB_iff.2 ((mem_openD h).2 hl)
      rw [e] at this; cases this
    simp [hn]
theorem mem_locksD {x : Disk} (h : diskB x = true) {m : ByteArray} : m ∈ locksD x ↔ ∃ y ∈ x.notes, y.kind = 1 ∧ y.tx ∈ openD x ∧ m ∈ y.locks := by
  rw [locksD_yes h, mem_opensKeys]
  constructor
  · rintro ⟨y, hy, hm⟩
    have := mem_inD.1 hy
    exact ⟨y, this.1, this.2.1, (mem_openD h).2 this.2.2, hm⟩
  · rintro ⟨y, hy, hk, ho, hm⟩
    exact ⟨y, mem_inD.2 ⟨hy, hk, (mem_openD h).1 ho⟩, hm⟩
theorem nodup_locksD (x : Disk) : (locksD x).Nodup := by
  unfold locksD; split
  · exact nodup_opensKeys _
  · exact List.nodup_nil
/-- Each name is there once. -/
theorem once_before {l : List ByteArray} {k : Nat} {m : ByteArray} (h : l.Nodup) (hk : l[k]? = some m) : hasB (l.take k) m = false := by
  rw [← Bool.not_eq_true, hasB_iff]
  intro hm
  obtain ⟨hlt, rfl⟩ := List.getElem?_eq_some_iff.1 hk
  have e : l = l.take k ++ l[k] :: l.drop (k + 1) := by rw [← List.drop_eq_getElem_cons hlt, List.take_append_drop]
  rw [e, List.nodup_append] at h
  exact h.2.2 _ hm _ List.mem_cons_self rfl
theorem openD_len (x : Disk) : (openD x).length ≤ x.notes.length := by
  unfold openD; split
  · exact Nat.le_trans (opensTx_len _) (inD_len _ _)
  · simp
theorem locksD_len {x : Disk} : (locksD x).length ≤ 12 * x.notes.length := by
  unfold locksD; split
  · rename_i h
    exact Nat.le_trans (opensKeys_len fun y hy => noteB_locks (diskB_note h (inD_mem hy))) (Nat.mul_le_mul_left 12 (inD_len _ _))
  · simp

end Go.Proofs.Ytkamlibfcakblaa

/- Numbers and names that bear marks: how much they weigh. -/
namespace Go.Proofs.Ytkamlibfcakblaa

theorem ints_cntL (xs : List Int) : cntL Sh.int.cnt xs = xs.length := ints_cnt xs
theorem ints_marked {xs ys : List Int} {k : Int} {c : Nat} (hl : ys.length = xs.length) (_ : mkdL Sh.int.cnt Sh.int.mkd k ys) (_ : 0 ≤ k) (_ : cntL Sh.int.cnt ys = c) (h : xs.length ≤ 99999) : intsSh.wt ys ≤ 1048576 := by
  rw [ints_wt]; omega
theorem strs_marked {xs ys : List ByteArray} {k : Int} {c : Nat} (hl : ys.length = xs.length) (h : mkdL strSh.cnt strSh.mkd k ys) (h0 : 0 ≤ k) (hc : cntL strSh.cnt ys = c) (hk : k + xs.length ≤ 9999) : strsSh.wt ys ≤ 1048576 := by
  have hn := strs_cntE ys
  have h1 := WtLe.strD.rows ys k h h0 (by omega)
  have e : strsSh.wt ys = wtL strSh.wt ys := rfl
  omega
theorem openD_small {x : Disk} : (openD x).length ≤ 120 ∧ cntL Sh.int.cnt (openD x) ≤ 120 ∧ intsSh.wt (openD x) ≤ 120 := by
  have h : (openD x).length ≤ 120 := by
    unfold openD; split
    · rename_i h
      exact Nat.le_trans (Nat.le_trans (opensTx_len _) (inD_len _ _)) (diskB_small h).1
    · simp
  exact ⟨h, by rw [ints_cntL]; exact h, by rw [ints_wt]; exact h⟩
theorem locks_key {n : Note} (h : noteB n = true) {k : ByteArray} (hk : k ∈ n.locks) : k.size ≤ 3 := by
  unfold noteB at h
  simp only [Bool.and_eq_true] at h
  by_cases e : n.kind = 1
  · rw [if_pos e] at h
    have h2 : locksB n.locks = true := by simpa using (Bool.and_eq_true _ _ ▸ h.2 : _ ∧ _).1
    unfold locksB at h2
    simp only [Bool.and_eq_true, List.all_eq_true] at h2
    exact keyB_le3 (h2.2 k hk)
  · rw [if_neg e] at h
    have h2 : n.locks.length = 0 := by
      have := h.2
      simp only [Bool.and_eq_true, decide_eq_true_eq] at this
      exact this.2.1
    rw [List.length_eq_zero_iff] at h2
    rw [h2] at hk
    cases hk
theorem locksD_small {x : Disk} : (locksD x).length ≤ 1440 ∧ cntL strSh.cnt (locksD x) ≤ 1440 ∧ strsSh.wt (locksD x) ≤ 5760 := by
  cases hd : diskB x with
  | false => rw [locksD_no hd]; exact ⟨by simp, by simp [cntL], by show wtL strSh.wt [] ≤ _; simp [wtL]⟩
  | true =>
    have h1 := diskB_small hd
    have h : (locksD x).length ≤ 1440 := Nat.le_trans locksD_len (by omega)
    have h2 : ∀ k ∈ locksD x, k.size ≤ 3 := fun k hk => by
      obtain ⟨y, hy, -, -, hm⟩ := (mem_locksD hd).1 hk
      exact locks_key (h1.2 y hy) hm
    have h3 := strs_wtE h2
    have e : strsSh.wt (locksD x) = wtL strSh.wt (locksD x) := rfl
    exact ⟨h, by rw [strs_cntE]; exact h, by omega⟩

end Go.Proofs.Ytkamlibfcakblaa
