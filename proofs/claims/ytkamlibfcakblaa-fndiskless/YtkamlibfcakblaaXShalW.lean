/- Texts that follow each other, merged: ShalW, OwnIt2, FoldP, Ready. -/
import Derived.Test.YtkamlibfcakblaaXShal
import Derived.Test.YtkamlibfcakblaaXHStr
import Derived.Test.YtkamlibfcakblaaXOwnWr
import Derived.Test.YtkamlibfcakblaaXDiskOf
import Derived.Test.YtkamlibfcakblaaXWrts
import Derived.Test.YtkamlibfcakblaaXStoMap
import Derived.Test.YtkamlibfcakblaaXNoteOkS

/- Appends to a row of one's own whose elements are only read, in a walk: of any shape. -/
namespace Go.Proofs.Ytkamlibfcakblaa
open Go.RowKit

section
variable {α : Type} (Q0 : Sh α) (t e : TypeId) (z : Value) (bytes : Nat) (ht : Try.prog.underlying t = some (.slice e)) (hinfo : (Try.prog.info? e).map (fun i => (i.zero, i.size, i.bytes)) = some (some z, Q0.wd, bytes)) (hzs : z.cells.size = Q0.wd) (hsz : 0 < Q0.wd) (hbl : bytes ≤ 65536)
include ht hinfo hzs hsz hbl
/-- append of some things that are read. -/
theorem shalS_any {o : Oper} {a : Act} {w : World} {K : Act → World → Prop} {Q : Exit → Act → World → Prop} (s x : Operand)
    (ho : o.op = .call { callee := .builtin .append, args := #[s, x], argTypes := #[t, t] }) (B : Nat) (v : Value) (xs ys : List α) (hs : a.eval s = v) (hv : Q0.Shal e w B v xs) (hB : B ≤ w.heap.size)
    (Ad : Option Addr) (n c : Nat) (hx : a.eval x = .slice Ad n c) (hn : n = ys.length) (hy : Q0.Row w B (.slice Ad n c) ys) (hl : xs.length + ys.length ≤ 2097152)
    (h : ∀ v' w', Q0.Shal e w' B v' (xs ++ ys) → Below B w w' → w.grownBy w' v.ownBlock → K (a.put o.dst v') w') :
    Oper.wp Try.prog o a w K Q := by
  obtain ⟨i, hi, hz, hsi, hb⟩ := info_parts hinfo
  obtain ⟨v', w', hr, h2, h3, h4, h5⟩ := Sh.shal_run (P := Try.prog) (A := Q0) i _ bytes ht hi hz hsi hb hzs hsz hv hB Ad n c hn hy o.type hl hbl
  unfold Oper.wp execOp
  simp only [ho, resolve, invoke, builtin, Sem.run_bind, Sem.run_pure, Result.andThen_ok, List.map_toArray, List.map_cons, List.map_nil, hs, hx, hr]
  exact h v' w' h2 h3 h5
/-- append of one thing that is laid out beside. -/
theorem shal1_any {o : Oper} {a : Act} {w : World} {K : Act → World → Prop} {Q : Exit → Act → World → Prop} (s x : Operand)
    (ho : o.op = .call { callee := .builtin .append, args := #[s, x], argTypes := #[t, t] }) (B : Nat) (v : Value) (xs : List α) (hs : a.eval s = v) (hv : Q0.Shal e w B v xs) (hB : B ≤ w.heap.size)
    (L c : Nat) (hx : a.eval x = .slice (some ⟨L, 0, none⟩) 1 c) (y : α) (cs : List Value) (hrel : Q0.rel w B cs y) (hsrc : ∀ j u, cs[j]? = some u → w.cell? ⟨L, j, none⟩ = some u) (hl : xs.length + 1 ≤ 2097152)
    (h : ∀ v' w', Q0.Shal e w' B v' (xs ++ [y]) → Below B w w' → K (a.put o.dst v') w') :
    Oper.wp Try.prog o a w K Q := by
  obtain ⟨i, hi, hz, hsi, hb⟩ := info_parts hinfo
  obtain ⟨C, h1, h2, h3⟩ := hv
  have hcl : cs.length = Q0.wd := Q0.rlen hrel
  have hb2 : (xs.length + 1) * bytes ≤ 140737488355328 := by
    have h := Nat.mul_le_mul hl hbl
    omega
  obtain ⟨v', w', hr, q2, hg, _, q5⟩ := run_append_own_at (P := Try.prog) w 0 t o.type e i _ Q0.wd bytes ht hi hz hsi hb hzs hsz v xs.length _ h1 ⟨L, 0, none⟩ 1 c cs (by rw [hcl, Nat.one_mul]) (fun j u hu => by rw [add_none, Nat.zero_add]; exact hsrc j u hu) (Q0.rone hrel) (by unfold maxLen; omega) hb2 (Nat.zero_le _)
  have hbel : Below B w w' := (Below.refl B w).grown hg hB h2
  unfold Oper.wp execOp
  simp only [ho, resolve, invoke, builtin, Sem.run_bind, Sem.run_pure, Result.andThen_ok, List.map_toArray, List.map_cons, List.map_nil, hs, hx, hr]
  refine h v' w' ⟨fun j => if j < xs.length then C j else cs, ?_, fun g hg' => ?_, fun j z hz' => ?_⟩ hbel
  · have hf : flat (fun j => if j < xs.length then C j else cs) (xs.length + 1) = flat C xs.length ++ cs := by
      have h := flat_app C (fun _ => cs) xs.length 1
      rw [h]; simp [flat]
    rw [List.length_append, List.length_singleton, hf]
    exact q2
  · rcases q5 with h | h
    · exact h2 g (h ▸ hg')
    · rw [h] at hg'; rw [← Option.some.inj hg']; exact hB
  · by_cases hj : j < xs.length
    · rw [List.getElem?_append_left hj] at hz'
      simp only [hj, if_true]
      exact Q0.rbelow (h3 j z hz') hbel
    · rw [List.getElem?_append_right (by omega)] at hz'
      have hj0 : j - xs.length = 0 := by have := (List.getElem?_eq_some_iff.1 hz').1; simp at this; omega
      rw [hj0] at hz'
      obtain rfl : y = z := by simpa using hz'
      simp only [hj, if_false]
      exact Q0.rbelow hrel hbel
end

end Go.Proofs.Ytkamlibfcakblaa

/- append of one thing, once more: where the new slice lies. What the model's StoDo leaves is short. -/
namespace Go.Proofs.Ytkamlibfcakblaa
open Go.RowKit

set_option maxRecDepth 100000 in
/-- append of one thing that lies in a block of its own. -/
theorem append_item2 (w : World) (lo : Nat) (S : Nat → Prop) (v : Value) (its : List Item) (hv : OwnIt w lo S v its) (it : Item) (A : Option Addr) (n c B : Nat) (hks : it.key.size ≤ maxLen)
    (hu : IntsIn w (fun b => S b ∧ v.ownBlock ≠ some b) (.slice A n c) it.val) (hsrc : Held w B [.string it.key, .slice A n c]) (ty : TypeId) (hl : its.length ≤ 2097152) (hlo : lo ≤ w.heap.size) :
    ∃ v' w', (Builtin.append_ #[52, 52] ty #[v, .slice (some ⟨B, 0, none⟩) 1 1]).run Try.prog w = .ok v' w' ∧ OwnIt w' lo S v' (its ++ [it]) ∧ w.grownBy w' v.ownBlock ∧ (v'.ownBlock = v.ownBlock ∨ v'.ownBlock = some w.heap.size) := by
  obtain ⟨i, hi, hz, hs, hb⟩ := info_parts infoItem
  obtain ⟨U, h1, h3⟩ := hv
  obtain ⟨g, cap, w', hr, h2, hg, hwhere, hlt⟩ := run_append_lies (P := Try.prog) w 52 ty lo 104 i _ 2 40 Try.underlying52 hi hz hs hb rfl (by omega) v its.length _ h1 ⟨B, 0, none⟩ 1 1 [.string it.key, .slice A n c] rfl
    (fun j u hu => by
      have := hsrc.2.2 j u hu
      rw [← this]; congr 1
      unfold Addr.add
      by_cases h : j = 0 <;> simp [h])
    (by intro u hu; simp at hu; rcases hu with rfl | rfl <;> rfl) (by omega) (by unfold maxLen; omega) (by omega) hlo w.heap.size rfl
  have hne : ∀ b, b < w.heap.size → v.ownBlock ≠ some b → (Value.slice (some ⟨g, 0, none⟩) (its.length + 1) cap).ownBlock ≠ some b := by
    intro b hb' hvb e
    have e' : g = b := Option.some.inj e
    rcases hwhere with h | h
    · rw [h, e'] at hvb; exact hvb rfl
    · omega
  have hlen : (its ++ [it]).length = its.length + 1 := by simp
  refine ⟨_, w', hr, ⟨upd U its.length (.slice A n c), ?_, fun j x hx => ?_⟩, hg, hwhere.elim (fun h => .inl h.symm) (fun h => .inr (by show some g = _; rw [h]))⟩
  · rw [cellsU_snoc, hlen]; exact h2
  · rcases Nat.lt_or_ge j its.length with hj | hj
    · rw [List.getElem?_append_left hj] at hx
      obtain ⟨a, b⟩ := h3 j x hx
      rw [upd_other _ _ (by omega)]
      exact ⟨a, b.keep (fun k hk hS => hg.block k hk (fun e => hS.2 e.symm)) hg.size (fun k hk hS => ⟨hS.1, hne k hk hS.2⟩)⟩
    · have hjl : j = its.length := by
        have := (List.getElem?_eq_some_iff.1 hx).1
        simp at this; omega
      subst hjl
      have hx' : it = x := by simpa using hx
      subst hx'
      rw [upd_same]
      exact ⟨hks, hu.keep (fun k hk hS => hg.block k hk (fun e => hS.2 e.symm)) hg.size (fun k hk hS => ⟨hS.1, hne k hk hS.2⟩)⟩

theorem wpl_append_item2 {w : World} {ops : Array Oper} {rest : List Oper} {o : Oper} {a : Act} {Q : Exit → Act → World → Prop} (hgd : o.guard = none) (s x : Operand)
    (ho : o.op = .call { callee := .builtin .append, args := #[s, x], argTypes := #[52, 52] }) (lo : Nat) (S : Nat → Prop) (v : Value) (its : List Item) (hs : a.eval s = v) (hv : OwnIt w lo S v its)
    (it : Item) (A : Option Addr) (n c B : Nat) (hx : a.eval x = .slice (some ⟨B, 0, none⟩) 1 1) (hks : it.key.size ≤ maxLen) (hu : IntsIn w (fun b => S b ∧ v.ownBlock ≠ some b) (.slice A n c) it.val)
    (hsrc : Held w B [.string it.key, .slice A n c]) (hl : its.length ≤ 2097152) (hlo : lo ≤ w.heap.size)
    (h : ∀ v' w', OwnIt w' lo S v' (its ++ [it]) → w.grownBy w' v.ownBlock → (v'.ownBlock = v.ownBlock ∨ v'.ownBlock = some w.heap.size) → wpList Try.prog ops Q rest (a.put o.dst v') w') : wpList Try.prog ops Q (o :: rest) a w := by
  refine wpList_plain hgd fun K hK => ?_
  obtain ⟨v', w', hr, h2, h3, h4⟩ := append_item2 w lo S v its hv it A n c B hks hu hsrc o.type hl hlo
  unfold Oper.wp execOp
  simp only [ho, resolve, invoke, builtin, Sem.run_bind, Sem.run_pure, Result.andThen_ok, List.map_toArray, List.map_cons, List.map_nil, hs, hx, hr]
  exact hK _ _ (h v' w' h2 h3 h4)
/-- The same, in a region that draws. -/
theorem step_append_item2 {w : World} {ops : Array Oper} {o : Oper} {a : Act} {K : Act → World → Prop} {Q : Exit → Act → World → Prop} {E : Prop} (hgd : o.guard = none) (s x : Operand)
    (ho : o.op = .call { callee := .builtin .append, args := #[s, x], argTypes := #[52, 52] }) (lo : Nat) (S : Nat → Prop) (v : Value) (its : List Item) (hs : a.eval s = v) (hv : OwnIt w lo S v its)
    (it : Item) (A : Option Addr) (n c B : Nat) (hx : a.eval x = .slice (some ⟨B, 0, none⟩) 1 1) (hks : it.key.size ≤ maxLen) (hu : IntsIn w (fun b => S b ∧ v.ownBlock ≠ some b) (.slice A n c) it.val)
    (hsrc : Held w B [.string it.key, .slice A n c]) (hl : its.length ≤ 2097152) (hlo : lo ≤ w.heap.size)
    (h : ∀ v' w', OwnIt w' lo S v' (its ++ [it]) → w.grownBy w' v.ownBlock → (v'.ownBlock = v.ownBlock ∨ v'.ownBlock = some w.heap.size) → K (a.put o.dst v') w') : if Region.wanted o (yielded ops a.tmps) = true then Oper.wp Try.prog o a w K Q else E := by
  have hw : Region.wanted o (yielded ops a.tmps) = true := by simp [Region.wanted, hgd]
  rw [if_pos hw]
  obtain ⟨v', w', hr, h2, h3, h4⟩ := append_item2 w lo S v its hv it A n c B hks hu hsrc o.type hl hlo
  unfold Oper.wp execOp
  simp only [ho, resolve, invoke, builtin, Sem.run_bind, Sem.run_pure, Result.andThen_ok, List.map_toArray, List.map_cons, List.map_nil, hs, hx, hr]
  exact h v' w' h2 h3 h4

section
variable {w w' : World} {lo : Nat} {S S' : Nat → Prop} {v : Value} {its : List Item}
theorem OwnIt.keep2 (h : OwnIt w lo S v its) (hk : ∀ b, b < w.heap.size → S b ∨ v.ownBlock = some b → w'.heap[b]? = w.heap[b]?) (hs : w.heap.size ≤ w'.heap.size) : OwnIt w' lo S v its := by
  obtain ⟨U, h1, h3⟩ := h
  refine ⟨U, ⟨h1.1, ?_⟩, fun j it hit => ?_⟩
  · rcases h1.2 with hn | ⟨g, cap, cur, hv, hl, hgg, rest⟩
    · exact .inl hn
    · exact .inr ⟨g, cap, cur, hv, hl, by rw [hk g (Array.getElem?_eq_some_iff.1 hgg).1 (.inr (by rw [hv]; rfl))]; exact hgg, rest⟩
  · obtain ⟨a, b⟩ := h3 j it hit
    exact ⟨a, b.keep (fun k hk' hS => hk k hk' (.inl hS.1)) hs (fun _ _ h => h)⟩
theorem OwnIt.setCell2 (h : OwnIt w lo S v its) {p : Addr} (hp : ¬ S p.block) (hl : v.ownBlock ≠ some p.block) (u : Value) : OwnIt (w.setCell p u) lo S v its :=
  h.keep2 (fun b _ hb => Below.heap_setCell w p u b (fun e => by subst e; rcases hb with hb | hb; exact hp hb; exact hl hb)) (by simp [World.setCell])
end
theorem OwnWr.source {w : World} {lo : Nat} {S : Nat → Prop} {v : Value} {ws : List Wr} (h : OwnWr w lo S v ws) : ∃ (qs : List (Wr × Value)) (g cap : Nat), qs.map Prod.fst = ws ∧ v = .slice (some ⟨g, 0, none⟩) qs.length cap ∧ (∀ j u, (wcells qs)[j]? = some u → w.cell? ((⟨g, 0, none⟩ : Addr).add j) = some u) ∧
    ∀ p ∈ qs, p.1.key.size ≤ maxLen ∧ IntsIn w S p.2 p.1.val := by
  obtain ⟨g, cap, rfl, _⟩ := h.form
  obtain ⟨ps, rfl, _, h1, h3⟩ := h
  rw [List.length_map] at h1
  refine ⟨ps, g, cap, rfl, by rw [List.length_map], h1.cells rfl, fun p hp => ?_⟩
  obtain ⟨a, b⟩ := h3 p hp
  exact ⟨a, b.keep (fun _ _ _ => rfl) (Nat.le_refl _) (fun _ _ h => h.1)⟩

theorem doStep_fine {o : Option (List Item)} {x : Wr} (h : ∀ cur, o = some cur → cur.length ≤ 40 ∧ Fine cur) : ∀ cur, doStep o x = some cur → cur.length ≤ 40 ∧ Fine cur := by
  intro cur hc
  cases o with
  | none => simp [doStep] at hc
  | some its =>
    unfold doStep at hc
    simp only [Option.bind_some] at hc
    split at hc
    · next hok =>
      split at hc
      · cases hc
      · next hlen =>
        injection hc with hc
        subst hc
        exact ⟨by omega, (h its rfl).2.wAll (Wr.fine hok)⟩
    · cases hc
theorem doFold_fine (ws : List Wr) : ∀ {o : Option (List Item)}, (∀ cur, o = some cur → cur.length ≤ 40 ∧ Fine cur) → ∀ cur, ws.foldl doStep o = some cur → cur.length ≤ 40 ∧ Fine cur := by
  induction ws with
  | nil => intro o h cur hc; exact h cur hc
  | cons x ws ih => intro o h cur hc; exact ih (doStep_fine h) cur hc
theorem stoDo_fine (its : List Item) (ws : List Wr) : (stoDo its ws).length ≤ 40 ∧ Fine (stoDo its ws) := by
  unfold stoDo
  cases hd : doAll its ws with
  | none => exact ⟨by simp, fun _ h => by simp at h⟩
  | some cur =>
    unfold doAll at hd
    split at hd
    · next hs => exact doFold_fine ws (fun c hc => by injection hc with hc; rw [← hc]; exact stoB_fine hs) cur hd
    · cases hd

end Go.Proofs.Ytkamlibfcakblaa

/- What the committed writes of a place's notes come to: plain facts. -/
namespace Go.Proofs.Ytkamlibfcakblaa

/-- A note that says that a place is ready for tx. -/
def rdyB (tx : Int) (n : Note) : Bool := decide (n.kind = 1) && decide (n.tx = tx)
theorem rdyB_no {tx : Int} {n : Note} (h : n.kind ≠ 1 ∨ n.tx ≠ tx) : rdyB tx n = false := by unfold rdyB; rcases h with h | h <;> simp [h]
theorem rdyB_yes {tx : Int} {n : Note} (h : n.kind = 1) (h2 : n.tx = tx) : rdyB tx n = true := by unfold rdyB; simp [h, h2]
/-- The last one of those. -/
def readyN (ns : List Note) (tx : Int) : Option Note := ns.reverse.find? (rdyB tx)
theorem readyN_nil (tx : Int) : readyN [] tx = none := rfl
theorem readyN_snoc (ns : List Note) (y : Note) (tx : Int) : readyN (ns ++ [y]) tx = if rdyB tx y = true then some y else readyN ns tx := by
  unfold readyN
  rw [List.reverse_append, List.reverse_singleton, List.singleton_append, List.find?_cons]
  split <;> simp_all
theorem readyN_some {ns : List Note} {tx : Int} {n : Note} (h : readyN ns tx = some n) : n ∈ ns ∧ n.kind = 1 ∧ n.tx = tx := by
  have h1 := List.find?_some h
  have h2 := List.mem_of_find?_eq_some h
  unfold rdyB at h1
  simp only [Bool.and_eq_true, decide_eq_true_eq] at h1
  exact ⟨List.mem_reverse.1 h2, h1.1, h1.2⟩
/-- Sought from place k on down: not among those at k and behind. -/
theorem readyN_stop {ns : List Note} {tx : Int} {m k : Nat} {y : Note} (hkm : k < m) (hm : m ≤ ns.length) (hy : ns[k]? = some y) (hr : rdyB tx y = true) (hs : ∀ j z, k < j → j < m → ns[j]? = some z → rdyB tx z = false) : readyN (ns.take m) tx = some y := by
  induction m with
  | zero => omega
  | succ m ih =>
    have hlt : m < ns.length := by omega
    rw [take_snoc (List.getElem?_eq_getElem hlt), readyN_snoc]
    rcases Nat.lt_or_ge k m with h | h
    · rw [if_neg (by rw [hs m _ h (by omega) (List.getElem?_eq_getElem hlt)]; simp)]
      exact ih h (by omega) (fun j z h1 h2 h3 => hs j z h1 (by omega) h3)
    · have e : k = m := by omega
      subst e
      rw [List.getElem?_eq_getElem hlt] at hy
      cases hy
      rw [if_pos hr]
theorem readyN_none {ns : List Note} {tx : Int} {m : Nat} (hm : m ≤ ns.length) (hs : ∀ j z, j < m → ns[j]? = some z → rdyB tx z = false) : readyN (ns.take m) tx = none := by
  induction m with
  | zero => rfl
  | succ m ih =>
    have hlt : m < ns.length := by omega
    rw [take_snoc (List.getElem?_eq_getElem hlt), readyN_snoc, if_neg (by rw [hs m _ (by omega) (List.getElem?_eq_getElem hlt)]; simp)]
    exact ih (by omega) (fun j z h1 h3 => hs j z (by omega) h3)
/-- What it commits. -/
def comW (ns : List Note) (tx : Int) : List Wr := match readyN ns tx with | some n => n.writes | none => []
theorem comW_some {ns : List Note} {tx : Int} {n : Note} (h : readyN ns tx = some n) : comW ns tx = n.writes := by unfold comW; rw [h]
theorem comW_none {ns : List Note} {tx : Int} (h : readyN ns tx = none) : comW ns tx = [] := by unfold comW; rw [h]

def stepF (st : List Note × List Item) (y : Note) : List Note × List Item := (st.1 ++ [y], if y.kind = 2 then stoDo st.2 (comW st.1 y.tx) else st.2)
theorem foldF_fst : ∀ (ns : List Note) (st : List Note × List Item), (ns.foldl stepF st).1 = st.1 ++ ns
  | [], st => by simp
  | y :: ys, st => by rw [List.foldl_cons, foldF_fst ys]; simp [stepF]
def foldN (ns : List Note) : List Item := (ns.foldl stepF ([], [])).2
theorem foldN_nil : foldN [] = [] := rfl
theorem foldN_snoc (ns : List Note) (y : Note) : foldN (ns ++ [y]) = if y.kind = 2 then stoDo (foldN ns) (comW ns y.tx) else foldN ns := by
  unfold foldN
  rw [List.foldl_append, List.foldl_cons, List.foldl_nil]
  show (if y.kind = 2 then stoDo _ (comW (ns.foldl stepF ([], [])).1 y.tx) else _) = _
  rw [foldF_fst]; rfl
theorem foldN_take {ns : List Note} {k : Nat} {y : Note} (h : ns[k]? = some y) : foldN (ns.take (k + 1)) = if y.kind = 2 then stoDo (foldN (ns.take k)) (comW (ns.take k) y.tx) else foldN (ns.take k) := by
  rw [take_snoc h, foldN_snoc]
def foldD (x : Disk) : List Item := if diskB x = true then foldN x.notes else []
theorem foldD_no {x : Disk} (h : diskB x = false) : foldD x = [] := by unfold foldD; rw [h]; rfl
theorem foldD_yes {x : Disk} (h : diskB x = true) : foldD x = foldN x.notes := by unfold foldD; rw [h]; rfl

theorem stoB_empty : stoB [] = true := by decide
theorem stoDo_none {s : List Item} (h : stoB s = true) : stoDo s [] = s := by unfold stoDo doAll; rw [if_pos h]; rfl
theorem foldN_fine : ∀ (ns : List Note) (st : List Note × List Item), (st.2.length ≤ 40 ∧ Fine st.2) → ((ns.foldl stepF st).2.length ≤ 40 ∧ Fine (ns.foldl stepF st).2)
  | [], _, h => h
  | y :: ys, st, h => foldN_fine ys (stepF st y) (by
    show (if y.kind = 2 then stoDo st.2 (comW st.1 y.tx) else st.2).length ≤ 40 ∧ Fine (if y.kind = 2 then stoDo st.2 (comW st.1 y.tx) else st.2)
    split
    · exact stoDo_fine _ _
    · exact h)
theorem foldN_len (ns : List Note) : (foldN ns).length ≤ 40 := (foldN_fine ns ([], []) ⟨by simp, fun _ h => by cases h⟩).1
theorem foldN_small (ns : List Note) : Fine (foldN ns) := (foldN_fine ns ([], []) ⟨by simp, fun _ h => by cases h⟩).2

end Go.Proofs.Ytkamlibfcakblaa

/- What l2Ready answers, of the model. -/
namespace Go.Proofs.Ytkamlibfcakblaa
open Go.RowKit

/-- The note that a place is ready with, if there is one. -/
def RdyIs (ns : List Note) (tx : Int) (n : Note) (q : Bool) : Prop := (q = true ∧ readyN ns tx = some n) ∨ (q = false ∧ readyN ns tx = none)
theorem bareRel (w : World) (B : Nat) (k t : Int) : noteSh.rel w B [.int .i64 k, .int .i64 t, .slice none 0 0, .slice none 0 0] ⟨k, t, [], []⟩ := note_rel.2 ⟨_, _, rfl, Sh.Row.nil _ _, Sh.Row.nil _ _⟩
theorem ready_here {ns : List Note} {tx : Int} {j : Nat} {y : Note} (h : readyN ns tx = readyN (ns.take (j + 1)) tx) (hy : ns[j]? = some y) (hr : rdyB tx y = true) : readyN ns tx = some y := by
  rw [h, take_snoc hy, readyN_snoc, if_pos hr]
theorem ready_down {ns : List Note} {tx : Int} {j : Nat} {y : Note} (h : readyN ns tx = readyN (ns.take (j + 1)) tx) (hy : ns[j]? = some y) (hr : rdyB tx y = false) : readyN ns tx = readyN (ns.take j) tx := by
  rw [h, take_snoc hy, readyN_snoc, if_neg (by rw [hr]; simp)]

/-- What l2Ready answers. -/
def ReadyMade (ns : List Note) (tx : Int) (w : World) (B : Nat) (e : Ending) (w' : World) : Prop :=
  ∃ n q A1 c1 A2 c2, e = .returned (.tuple #[.agg #[.int .i64 n.kind, .int .i64 n.tx, .slice A1 n.locks.length c1, .slice A2 n.writes.length c2], .bool q])
    ∧ noteSh.rel w' B [.int .i64 n.kind, .int .i64 n.tx, .slice A1 n.locks.length c1, .slice A2 n.writes.length c2] n ∧ RdyIs ns tx n q ∧ Below w.heap.size w w'
set_option maxRecDepth 100000 in
set_option maxHeartbeats 2000000 in
theorem l2Ready_any (w : World) (B : Nat) (v : Value) (ns : List Note) (tx : Int) (hv : noteSh.Row w B v ns) (hl : ns.length ≤ 1000000) (hB : B ≤ w.heap.size) :
    Calls Try.prog 83 #[v, .int .i64 tx] w (ReadyMade ns tx w B) := by
  obtain ⟨A, c, rfl, hc2, hc1⟩ := hv.form
  unfold maxLen at hc2
  have HV := Lib.hid (hv.alloc hB (.cells #[.int .i64 0, .int .i64 0, .slice none 0 0, .slice none 0 0] 36))
  have HX := Lib.hid (Held.new w #[.int .i64 0, .int .i64 0, .slice none 0 0, .slice none 0 0] 36)
  have HB := Lib.hid (belowOne w (.cells #[.int .i64 0, .int .i64 0, .slice none 0 0, .slice none 0 0] 36))
  clear hv
  go_enter Try.func83, Try.ntmps83
  go_wp2
  go_loop [6] (fun i => (i = .int .i64 (-1) ∧ readyN ns tx = none) ∨ ∃ j : Nat, j < ns.length ∧ i = .int .i64 j ∧ readyN ns tx = readyN (ns.take (j + 1)) tx) (fun i => (intOf i + 1).toNat)
  case atStart =>
    rcases Nat.eq_zero_or_pos ns.length with h | h
    · refine .inl ⟨by rw [h]; rfl, ?_⟩
      rw [List.length_eq_zero_iff.1 h]; rfl
    · refine .inr ⟨ns.length - 1, by omega, by congr 1; omega, ?_⟩
      rw [show ns.length - 1 + 1 = ns.length by omega, List.take_length]
  case round =>
    have k0 := HX.out.of 0 _ rfl
    have k1 := HX.out.of 1 _ rfl
    have k2 := HX.out.of 2 _ rfl
    have k3 := HX.out.of 3 _ rfl
    have kf := HX.out.2.1
    rcases hrel with ⟨rfl, hn⟩ | ⟨j, hj, rfl, hn⟩
    · have HN := Lib.hid hn
      clear hn
      go_wp2
      refine bodyPost_ret (v := .tuple #[.agg #[.int .i64 0, .int .i64 0, .slice none 0 0, .slice none 0 0], .bool false]) ?_ rfl ⟨⟨0, 0, [], []⟩, false, none, 0, none, 0, rfl, bareRel _ _ _ _, .inr ⟨rfl, HN.out⟩, HB.out⟩
      simp [results, Try.results83, go_sem, k0, k1, k2, k3]
    · obtain ⟨b, off, d, y, A1, c1, A2, c2, e1, hy, hbB, d0, d1, d2, d3, hyr⟩ := notes_at2 HV.out hj
      injection e1 with e1a e1b e1c
      subst e1a
      clear e1b e1c
      have HN := Lib.hid hn
      have HY := Lib.hid hy
      have HR := Lib.hid hyr
      have hw : IntKind.i64.wrap ((j : Int) - 1) = (j : Int) - 1 := IntWalk.i64_in _ (by omega)
      clear hn hy hyr
      by_cases h1 : y.kind = 1
      · have ek : (y.kind == 1) = true := by simp [h1]
        by_cases h2 : y.tx = tx
        · have et : (y.tx == tx) = true := by simp [h2]
          have HH := Lib.hid (ready_here HN.out HY.out (rdyB_yes h1 h2))
          clear h1 h2
          go_wp2
          have HRn := Lib.hid (noteSh.rkeep HR.out (w' := w.alloc (.cells #[.int .i64 y.kind, .int .i64 y.tx, .slice A1 y.locks.length c1, .slice A2 y.writes.length c2] 36)) fun b o hb => ((belowOne w _).cell (p := ⟨b, o, none⟩) (by show b < w.heap.size; omega)).trans ((belowOne w (.cells #[.int .i64 0, .int .i64 0, .slice none 0 0, .slice none 0 0] 36)).cell (p := ⟨b, o, none⟩) (by show b < w.heap.size; omega)).symm)
          have HQ := Held.new w #[.int .i64 y.kind, .int .i64 y.tx, .slice A1 y.locks.length c1, .slice A2 y.writes.length c2] 36
          have q0 := HQ.of 0 _ rfl
          have q1 := HQ.of 1 _ rfl
          have q2 := HQ.of 2 _ rfl
          have q3 := HQ.of 3 _ rfl
          refine bodyPost_ret (v := .tuple #[.agg #[.int .i64 y.kind, .int .i64 y.tx, .slice A1 y.locks.length c1, .slice A2 y.writes.length c2], .bool true]) ?_ rfl ⟨y, true, A1, c1, A2, c2, rfl, HRn.out, .inl ⟨rfl, HH.out⟩, belowOne w _⟩
          simp [results, Try.results83, go_sem, q0, q1, q2, q3]
        · have et : (y.tx == tx) = false := by simp [h2]
          have HH := Lib.hid (ready_down HN.out HY.out (rdyB_no (.inr h2)))
          clear h1 h2 k0 k1 k2 k3 kf
          go_wp2
          go_round
          case rel =>
            rcases Nat.eq_zero_or_pos j with h | h
            · subst h; exact .inl ⟨by simp, HH.out⟩
            · exact .inr ⟨j - 1, by omega, by congr 1; omega, by rw [show j - 1 + 1 = j by omega]; exact HH.out⟩
          case measure => simp [intOf]
      · have ek : (y.kind == 1) = false := by simp [h1]
        have HH := Lib.hid (ready_down HN.out HY.out (rdyB_no (.inl h1)))
        clear h1 k0 k1 k2 k3 kf
        go_wp2
        go_round
        case rel =>
          rcases Nat.eq_zero_or_pos j with h | h
          · subst h; exact .inl ⟨by simp, HH.out⟩
          · exact .inr ⟨j - 1, by omega, by congr 1; omega, by rw [show j - 1 + 1 = j by omega]; exact HH.out⟩
        case measure => simp [intOf]

end Go.Proofs.Ytkamlibfcakblaa
