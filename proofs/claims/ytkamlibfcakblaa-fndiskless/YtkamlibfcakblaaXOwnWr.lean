/- Texts that follow each other, merged: OwnWr, DrawWrts, AppAny. -/
import Derived.Test.YtkamlibfcakblaaXCopyI
import Derived.Maps.AppendAt
import Derived.Test.YtkamlibfcakblaaXShOwn
import Derived.Test.YtkamlibfcakblaaXHStr

/- Slices of writes that the call itself has made, by append. -/
namespace Go.Proofs.Ytkamlibfcakblaa
open Go.RowKit

theorem infoWrite : (Try.prog.info? 86).map (fun i => (i.zero, i.size, i.bytes)) = some (some (.agg #[.string ByteArray.empty, .bool false, .slice none 0 0]), 3, 48) := by kernel_rfl

def wcells : List (Wr × Value) → List Value
  | [] => []
  | p :: ps => .string p.1.key :: .bool p.1.del :: p.2 :: wcells ps
theorem wcells_len (ps : List (Wr × Value)) : (wcells ps).length = ps.length * 3 := by
  induction ps with
  | nil => rfl
  | cons p ps ih => simp [wcells, ih]; omega
theorem wcells_append (ps qs : List (Wr × Value)) : wcells (ps ++ qs) = wcells ps ++ wcells qs := by
  induction ps with
  | nil => rfl
  | cons p ps ih => simp [wcells, ih]
theorem wcells_at {ps : List (Wr × Value)} : ∀ {j : Nat} {p : Wr × Value}, ps[j]? = some p → (wcells ps)[j * 3]? = some (.string p.1.key) ∧ (wcells ps)[j * 3 + 1]? = some (.bool p.1.del) ∧ (wcells ps)[j * 3 + 2]? = some p.2 := by
  induction ps with
  | nil => intro j p h; simp at h
  | cons q ps ih =>
    intro j p h
    cases j with
    | zero =>
      simp at h; subst h
      simp [wcells]
    | succ j =>
      simp at h
      have := ih h
      rw [show (j + 1) * 3 = j * 3 + 1 + 1 + 1 by omega]
      simpa [wcells] using this

/-- A slice of writes in a block of the call's own, from lo on; the numbers of each in some other block of S. -/
def OwnWr (w : World) (lo : Nat) (S : Nat → Prop) (v : Value) (ws : List Wr) : Prop :=
  ∃ ps : List (Wr × Value), ps.map Prod.fst = ws ∧ v ≠ .slice none 0 0 ∧ w.ownsRow lo 86 3 v ps.length (wcells ps) ∧ ∀ p ∈ ps, p.1.key.size ≤ maxLen ∧ IntsIn w (fun b => S b ∧ v.ownBlock ≠ some b) p.2 p.1.val
section
variable {w w' : World} {lo : Nat} {S S' : Nat → Prop} {v : Value} {ws : List Wr}
theorem OwnWr.form (h : OwnWr w lo S v ws) : ∃ g cap, v = .slice (some ⟨g, 0, none⟩) ws.length cap ∧ lo ≤ g ∧ g < w.heap.size ∧ ws.length ≤ cap ∧ cap ≤ maxLen := by
  obtain ⟨ps, rfl, hne, h1, _⟩ := h
  rcases h1.2 with ⟨hv, h0⟩ | ⟨g, cap, cur, hv, hb, hg, hn, hm, _⟩
  · exact absurd hv hne
  · exact ⟨g, cap, by rw [hv, List.length_map], hb, (Array.getElem?_eq_some_iff.1 hg).1, by rw [List.length_map]; exact hn, hm⟩
theorem OwnWr.wrts (h : OwnWr w lo S v ws) : Wrts w w.heap.size v ws := by
  obtain ⟨g, cap, rfl, hlo, hg, hn, hm⟩ := h.form
  obtain ⟨ps, rfl, hne, h1, h3⟩ := h
  rw [List.length_map] at h1
  refine ⟨_, cap, rfl, hn, hm, fun _ => ⟨g, 0, rfl, hg, fun j x hx => ?_⟩⟩
  rw [List.getElem?_map] at hx
  cases hp : ps[j]? with
  | none => rw [hp] at hx; simp at hx
  | some p =>
    rw [hp] at hx
    have hx' : p.1 = x := by simpa using hx
    subst hx'
    have hj : j < ps.length := (List.getElem?_eq_some_iff.1 hp).1
    obtain ⟨a, b⟩ := h3 p (List.mem_of_getElem? hp)
    obtain ⟨c1, c2, c3⟩ := wcells_at hp
    refine ⟨a, ?_, ?_, p.2, ?_, b.ints⟩
    · rw [Nat.zero_add, h1.cellAt (j * 3) (by omega), c1]
    · rw [Nat.zero_add, h1.cellAt (j * 3 + 1) (by omega), c2]
    · rw [Nat.zero_add, h1.cellAt (j * 3 + 2) (by omega), c3]
theorem OwnWr.lt (h : OwnWr w lo S v ws) : ∀ g, v.ownBlock = some g → lo ≤ g ∧ g < w.heap.size := by
  obtain ⟨ps, _, _, h1, _⟩ := h
  exact h1.lt
theorem OwnWr.keep (h : OwnWr w lo S v ws) (hk : ∀ b, b < w.heap.size → S b ∨ lo ≤ b → w'.heap[b]? = w.heap[b]?) (hs : w.heap.size ≤ w'.heap.size) : OwnWr w' lo S v ws := by
  obtain ⟨ps, h0, hne, h1, h3⟩ := h
  refine ⟨ps, h0, hne, ⟨h1.1, ?_⟩, fun p hp => ?_⟩
  · rcases h1.2 with hn | ⟨g, cap, cur, hv, hl, hgg, rest⟩
    · exact .inl hn
    · exact .inr ⟨g, cap, cur, hv, hl, by rw [hk g (Array.getElem?_eq_some_iff.1 hgg).1 (.inr hl)]; exact hgg, rest⟩
  · obtain ⟨a, b⟩ := h3 p hp
    exact ⟨a, b.keep (fun k hk' hS => hk k hk' (.inl hS.1)) hs (fun _ _ h => h)⟩
theorem OwnWr.below (h : OwnWr w lo S v ws) (hb : Below w.heap.size w w') : OwnWr w' lo S v ws := h.keep (fun b hlt _ => hb.block b hlt) hb.size
theorem OwnWr.alloc (h : OwnWr w lo S v ws) (o : Obj) : OwnWr (w.alloc o) lo S v ws := h.below (belowOne w o)
theorem OwnWr.drew {g : Nat} {P : Int} (h : OwnWr w lo (lo ≤ ·) v ws) (hd : Drew g P w w') (hg : g < lo) : OwnWr w' lo (lo ≤ ·) v ws :=
  h.keep (fun b hb hS => hd.2.block b hb (fun e => by have := Option.some.inj e; rcases hS with h | h <;> omega)) hd.2.size
theorem OwnWr.empty (w : World) (lo : Nat) (S : Nat → Prop) (hlo : lo ≤ w.heap.size) : OwnWr (w.alloc (.cells #[] 86)) lo S (.slice (some ⟨w.heap.size, 0, none⟩) 0 0) [] :=
  ⟨[], rfl, by simp, World.ownsRow_made w #[] 0 hlo (Nat.zero_le _) (by simp), fun p hp => by simp at hp⟩
end

set_option maxRecDepth 100000 in
/-- append of some writes. -/
theorem append_writes (w : World) (lo : Nat) (S : Nat → Prop) (v : Value) (ws : List Wr) (hv : OwnWr w lo S v ws) (qs : List (Wr × Value)) (a : Addr) (c : Nat) (hqs : ∀ p ∈ qs, p.1.key.size ≤ maxLen ∧ IntsIn w (fun b => S b ∧ v.ownBlock ≠ some b) p.2 p.1.val)
    (hsrc : ∀ j u, (wcells qs)[j]? = some u → w.cell? (a.add j) = some u) (ty : TypeId) (hl : ws.length + qs.length ≤ 2097152) (hlo : lo ≤ w.heap.size) :
    ∃ v' w', (Builtin.append_ #[34, 34] ty #[v, .slice (some a) qs.length c]).run Try.prog w = .ok v' w' ∧ OwnWr w' lo S v' (ws ++ qs.map Prod.fst) ∧ w.grownBy w' v.ownBlock := by
  obtain ⟨i, hi, hz, hs, hb⟩ := info_parts infoWrite
  obtain ⟨ps, rfl, hne, h1, h3⟩ := hv
  rw [List.length_map] at hl
  have hone : ∀ u ∈ wcells qs, u.oneCell' = true := by
    intro u hu
    obtain ⟨n, hn⟩ := List.mem_iff_getElem?.1 hu
    have hlen := (List.getElem?_eq_some_iff.1 hn).1
    rw [wcells_len] at hlen
    have hq : qs[n / 3]? = some qs[n / 3] := List.getElem?_eq_getElem (by omega)
    obtain ⟨c1, c2, c3⟩ := wcells_at hq
    rcases (by omega : n = n / 3 * 3 ∨ n = n / 3 * 3 + 1 ∨ n = n / 3 * 3 + 2) with h | h | h
    · rw [h, c1] at hn; injection hn with hn; rw [← hn]; rfl
    · rw [h, c2] at hn; injection hn with hn; rw [← hn]; rfl
    · rw [h, c3] at hn; injection hn with hn
      obtain ⟨A, c', e, _⟩ := (hqs _ (List.getElem_mem (show n / 3 < qs.length by omega))).2
      rw [← hn, e]; rfl
  obtain ⟨v', w', hr, h2, hg, hnone, h5⟩ := run_append_own_at (P := Try.prog) w lo 34 ty 86 i _ 3 48 Try.underlying34 hi hz hs hb rfl (by omega) v ps.length _ h1 a qs.length c (wcells qs) (wcells_len qs) hsrc hone (by unfold maxLen; omega) (by omega) hlo
  have hne' : ∀ b, b < w.heap.size → v.ownBlock ≠ some b → v'.ownBlock ≠ some b := by
    intro b hb' hvb e
    rcases h5 with h | h
    · rw [h] at e; exact hvb e
    · rw [h] at e; have := Option.some.inj e; omega
  refine ⟨v', w', hr, ⟨ps ++ qs, by simp, fun e => hne (hnone.1 e).1, ?_, fun p hp => ?_⟩, hg⟩
  · rw [wcells_append, List.length_append]; exact h2
  · have hk : ∀ q : Wr × Value, (q.1.key.size ≤ maxLen ∧ IntsIn w (fun b => S b ∧ v.ownBlock ≠ some b) q.2 q.1.val) → (q.1.key.size ≤ maxLen ∧ IntsIn w' (fun b => S b ∧ v'.ownBlock ≠ some b) q.2 q.1.val) := fun (q : Wr × Value) ⟨x, y⟩ => ⟨x, y.keep (fun k hk hS => hg.block k hk (fun e => hS.2 e.symm)) hg.size (fun k hk hS => ⟨hS.1, hne' k hk hS.2⟩)⟩
    rcases List.mem_append.1 hp with h | h
    · exact hk p (h3 p h)
    · exact hk p (hqs p h)
theorem wpl_append_writes {w : World} {ops : Array Oper} {rest : List Oper} {o : Oper} {a : Act} {Q : Exit → Act → World → Prop} (hgd : o.guard = none) (s x : Operand)
    (ho : o.op = .call { callee := .builtin .append, args := #[s, x], argTypes := #[34, 34] }) (lo : Nat) (S : Nat → Prop) (v : Value) (ws : List Wr) (hs : a.eval s = v) (hv : OwnWr w lo S v ws)
    (qs : List (Wr × Value)) (ad : Addr) (c : Nat) (hx : a.eval x = .slice (some ad) qs.length c) (hqs : ∀ p ∈ qs, p.1.key.size ≤ maxLen ∧ IntsIn w (fun b => S b ∧ v.ownBlock ≠ some b) p.2 p.1.val) (hsrc : ∀ j u, (wcells qs)[j]? = some u → w.cell? (ad.add j) = some u)
    (hl : ws.length + qs.length ≤ 2097152) (hlo : lo ≤ w.heap.size)
    (h : ∀ v' w', OwnWr w' lo S v' (ws ++ qs.map Prod.fst) → w.grownBy w' v.ownBlock → wpList Try.prog ops Q rest (a.put o.dst v') w') : wpList Try.prog ops Q (o :: rest) a w := by
  refine wpList_plain hgd fun K hK => ?_
  obtain ⟨v', w', hr, h2, h3⟩ := append_writes w lo S v ws hv qs ad c hqs hsrc o.type hl hlo
  unfold Oper.wp execOp
  simp only [ho, resolve, invoke, builtin, Sem.run_bind, Sem.run_pure, Result.andThen_ok, List.map_toArray, List.map_cons, List.map_nil, hs, hx, hr]
  exact hK _ _ (h v' w' h2 h3)

end Go.Proofs.Ytkamlibfcakblaa

/- Drawn writes. -/
namespace Go.Proofs.Ytkamlibfcakblaa
open Go.RowKit

theorem heldAdd {w : World} {g : Nat} {cs : List Value} (h : Held w g cs) : ∀ (j : Nat) (u : Value), cs[j]? = some u → w.cell? ((⟨g, 0, none⟩ : Addr).add j) = some u := by
  intro j u hu
  rw [← h.2.2 j u hu]
  congr 1
  unfold Addr.add
  by_cases h : j = 0 <;> simp [h]
/-- What is appended: one write, just made. -/
theorem oneWrite {w w1 w2 : World} {lo : Nat} {out : Value} {ws : List Wr} {s : ByteArray} {d : Bool} {A : Option Addr} {c : Nat} {xs : List Int} (hown : OwnWr w1 lo (lo ≤ ·) out ws) (hs : s.size ≤ 1000002) (hu : OwnInts w2 w1.heap.size (.slice A xs.length c) xs) (hlo : lo ≤ w1.heap.size) (o : Obj) (e : w = w2.alloc o) :
    ∀ p ∈ [((⟨s, d, xs⟩, .slice A xs.length c) : Wr × Value)], p.1.key.size ≤ maxLen ∧ IntsIn w (fun b => lo ≤ b ∧ out.ownBlock ≠ some b) p.2 p.1.val := by
  intro p hp
  have : p = ((⟨s, d, xs⟩, .slice A xs.length c) : Wr × Value) := by simpa using hp
  subst this
  subst e
  exact ⟨by unfold maxLen; show s.size ≤ _; omega, (hu.alloc o).toIn.keep (fun _ _ _ => rfl) (Nat.le_refl _) fun b _ hb => ⟨Nat.le_trans hlo hb, fun h => by have := (hown.lt b h).2; omega⟩⟩

set_option maxRecDepth 100000 in
set_option maxHeartbeats 1000000 in
theorem l20Writes_any (w : World) (g : Nat) (P n : Int) (hr : Rds w g P) (hP0 : 0 ≤ P) (hP : P ≤ 700000000) (hn : n ≤ 1000000) :
    Calls Try.prog 115 #[.pointer (some ⟨g, 0, none⟩), .int .i64 n] w fun e w' => ∃ v ws, e = .returned v ∧ ws.length ≤ 6 ∧ OwnWr w' w.heap.size (w.heap.size ≤ ·) v ws ∧ Drew g (P + 300) w w' := by
  have hgw := hr.lt
  have HA := Lib.hid (show Drew g P w (w.alloc (.cells #[] 86)) from ⟨hr.alloc _, World.grownBy_alloc _ _ _⟩)
  have HO := Lib.hid (OwnWr.empty w w.heap.size (w.heap.size ≤ ·) (Nat.le_refl _))
  clear hr
  go_enter Try.func115, Try.ntmps115
  go_wp2_with fail
  refine (pick_rds _ g _ _ HA.out.1 (by omega) (by omega)).mono ?_
  rintro e w2 ⟨k, rfl, hk0, hk1, hd2⟩
  obtain ⟨k, rfl⟩ := Int.eq_ofNat_of_zero_le hk0
  have hk : k < 6 := by have := hk1 (by omega); omega
  have HD2 := Lib.hid (HA.out.trans hd2)
  have HO2 := Lib.hid (HO.out.drew hd2 hgw)
  clear hk0 hk1 hd2 HA HO
  go_wp2
  go_loopw [5, 6] (fun a b wr => ∃ (ws : List Wr) (j : Nat), OwnWr wr w.heap.size (w.heap.size ≤ ·) a ws ∧ b = .int .i64 j ∧ j ≤ 5 ∧ ws.length + j ≤ 5 ∧ Drew g (P + 201 - 40 * j) w wr) (fun _ b _ => (intOf b).toNat)
  case atStart => exact ⟨[], k, HO2.out, rfl, by omega, by simp; omega, HD2.out.1.more (by omega), HD2.out.2⟩
  case round =>
    clear HD2 HO2
    obtain ⟨ws, j, hown, rfl, hj2, hxj, hd⟩ := hrel
    obtain ⟨go, co, rfl, -, -, -, -⟩ := hown.form
    have HO := Lib.hid hown
    have HD := Lib.hid hd
    have hz : w.heap.size ≤ wr.heap.size := hd.2.size
    clear hown hd
    by_cases hj : 0 < j
    · go_wp2_with fail
      refine (l20Write_any _ g _ _ HD.out.1 (by omega) (by omega) (by omega)).mono ?_
      rintro e w3 ⟨s, d, v, xs, rfl, hs, hxs, hown3, hd3⟩
      obtain ⟨Av, cv, hvf, -, -⟩ := hown3.ints.form
      subst hvf
      have HD3 := Lib.hid (HD.out.trans hd3)
      have HQ := Lib.hid (oneWrite (w := w3.alloc (.cells #[.string s, .bool d, .slice Av xs.length cv] 86)) (d := d) HO.out hs hown3 hz _ rfl)
      have HO3 := Lib.hid ((HO.out.drew hd3 hgw).alloc (.cells #[.string s, .bool d, .slice Av xs.length cv] 86))
      have HS3 := Lib.hid (Held.new w3 #[.string s, .bool d, .slice Av xs.length cv] 86)
      have hz3 : w.heap.size ≤ w3.heap.size := Nat.le_trans hz hd3.2.size
      clear hd3 hown3 HD HO hz
      go_wp2_with (at_builtin; refine wpl_append_writes rfl _ _ rfl w.heap.size _ _ ws rfl HO3.out [((⟨s, d, xs⟩, .slice Av xs.length cv) : Wr × Value)] ⟨w3.heap.size, 0, none⟩ 1 rfl HQ.out (heldAdd HS3.out) (by simp; omega) (by simp; omega) ?_; intro u w4 hown4 hg4; have HO4 := Lib.hid hown4; have HG4 := Lib.hid hg4; clear hown4 hg4)
      have HD4 := Lib.hid ((HD3.out.alloc _).grown HG4.out (fun k hk => (HO3.out.lt k hk).1) hgw)
      clear HD3 HO3 HG4
      go_wp2
      go_roundw
      case rel => exact ⟨ws ++ [⟨s, d, xs⟩], j - 1, HO4.out, by go_num, by omega, by simp; omega, HD4.out.1.more (by omega), HD4.out.2⟩
      case measure => simp [intOf]; omega
    · go_wp2_with fail
      refine (odd_any _ g _ _ HD.out.1 (by omega) hn).mono ?_
      rintro e w5 ⟨bb, rfl, hbb, hd5⟩
      have HD5 := Lib.hid (HD.out.trans hd5)
      have HO5 := Lib.hid (HO.out.drew hd5 hgw)
      have hz5 : w.heap.size ≤ w5.heap.size := Nat.le_trans hz hd5.2.size
      clear hbb hd5 HD HO hz
      cases bb
      · go_wp2
        go_ret
        exact ⟨_, ws, rfl, by omega, HO5.out, HD5.out.1.more (by omega), HD5.out.2⟩
      · go_wp2_with fail
        refine (l20Write_any _ g _ _ HD5.out.1 (by omega) (by omega) (by omega)).mono ?_
        rintro e w3 ⟨s, d, v, xs, rfl, hs, hxs, hown3, hd3⟩
        obtain ⟨Av, cv, hvf, -, -⟩ := hown3.ints.form
        subst hvf
        have HD3 := Lib.hid (HD5.out.trans hd3)
        have HQ := Lib.hid (oneWrite (w := w3.alloc (.cells #[.string s, .bool d, .slice Av xs.length cv] 86)) (d := d) HO5.out hs hown3 hz5 _ rfl)
        have HO3 := Lib.hid ((HO5.out.drew hd3 hgw).alloc (.cells #[.string s, .bool d, .slice Av xs.length cv] 86))
        have HS3 := Lib.hid (Held.new w3 #[.string s, .bool d, .slice Av xs.length cv] 86)
        have hz3 : w.heap.size ≤ w3.heap.size := Nat.le_trans hz5 hd3.2.size
        clear hd3 hown3 HD5 HO5 hz5
        go_wp2_with (at_builtin; refine wpl_append_writes rfl _ _ rfl w.heap.size _ _ ws rfl HO3.out [((⟨s, d, xs⟩, .slice Av xs.length cv) : Wr × Value)] ⟨w3.heap.size, 0, none⟩ 1 rfl HQ.out (heldAdd HS3.out) (by simp; omega) (by simp; omega) ?_; intro u w4 hown4 hg4; have HO4 := Lib.hid hown4; have HG4 := Lib.hid hg4; clear hown4 hg4)
        have HD4 := Lib.hid ((HD3.out.alloc _).grown HG4.out (fun k hk => (HO3.out.lt k hk).1) hgw)
        clear HD3 HO3 HG4
        go_wp2
        go_ret
        exact ⟨u, ws ++ [⟨s, d, xs⟩], rfl, by simp; omega, HO4.out, HD4.out.1.more (by omega), HD4.out.2⟩

end Go.Proofs.Ytkamlibfcakblaa

/- append of one element of any shape, in a drawn region or in a walk. -/
namespace Go.Proofs.Ytkamlibfcakblaa
open Go.RowKit

theorem app_one {α : Type} (Q0 : Sh α) (t e : TypeId) (z : Value) (bytes : Nat) (ht : Try.prog.underlying t = some (.slice e)) (hinfo : (Try.prog.info? e).map (fun i => (i.zero, i.size, i.bytes)) = some (some z, Q0.wd, bytes)) (hzs : z.cells.size = Q0.wd) (hsz : 0 < Q0.wd) (hbl : bytes ≤ 65536)
    {o : Oper} {a : Act} {w : World} {K : Act → World → Prop} {Q : Exit → Act → World → Prop} (s x : Operand)
    (ho : o.op = .call { callee := .builtin .append, args := #[s, x], argTypes := #[t, t] }) (S S' : Nat → Prop) (v : Value) (xs : List α) (hs : a.eval s = v) (hv : Q0.Own e w S v xs)
    (B : Nat) (hx : a.eval x = .slice (some ⟨B, 0, none⟩) 1 1) (cs : List Value) (y : α) (hy : Q0.own w S' cs y) (hsrc : Held w B cs) (hdis : ∀ b, S b → ¬ S' b) (hl : xs.length ≤ 1048576)
    (h : ∀ v' w', Q0.Own e w' (fun b => S b ∨ S' b ∨ b = w.heap.size) v' (xs ++ [y]) → w.grownBy w' v.ownBlock → (v'.ownBlock = v.ownBlock ∨ v'.ownBlock = some w.heap.size) → K (a.put o.dst v') w') :
    Oper.wp Try.prog o a w K Q := by
  obtain ⟨i, hi, hz, hsi, hb⟩ := info_parts hinfo
  obtain ⟨v', w', hr, h2, h3, h4⟩ := Sh.append_one (P := Try.prog) (A := Q0) i z bytes ht hi hz hsi hb hzs hsz hv B cs y hy hsrc hdis o.type hl hbl
  unfold Oper.wp execOp
  simp only [ho, resolve, invoke, builtin, Sem.run_bind, Sem.run_pure, Result.andThen_ok, List.map_toArray, List.map_cons, List.map_nil, hs, hx, hr]
  exact h v' w' h2 h3 h4
theorem wpl_one {α : Type} (Q0 : Sh α) (t e : TypeId) (z : Value) (bytes : Nat) (ht : Try.prog.underlying t = some (.slice e)) (hinfo : (Try.prog.info? e).map (fun i => (i.zero, i.size, i.bytes)) = some (some z, Q0.wd, bytes)) (hzs : z.cells.size = Q0.wd) (hsz : 0 < Q0.wd) (hbl : bytes ≤ 65536)
    {w : World} {ops : Array Oper} {rest : List Oper} {o : Oper} {a : Act} {Q : Exit → Act → World → Prop} (hgd : o.guard = none) (s x : Operand)
    (ho : o.op = .call { callee := .builtin .append, args := #[s, x], argTypes := #[t, t] }) (S S' : Nat → Prop) (v : Value) (xs : List α) (hs : a.eval s = v) (hv : Q0.Own e w S v xs)
    (B : Nat) (hx : a.eval x = .slice (some ⟨B, 0, none⟩) 1 1) (cs : List Value) (y : α) (hy : Q0.own w S' cs y) (hsrc : Held w B cs) (hdis : ∀ b, S b → ¬ S' b) (hl : xs.length ≤ 1048576)
    (h : ∀ v' w', Q0.Own e w' (fun b => S b ∨ S' b ∨ b = w.heap.size) v' (xs ++ [y]) → w.grownBy w' v.ownBlock → (v'.ownBlock = v.ownBlock ∨ v'.ownBlock = some w.heap.size) → wpList Try.prog ops Q rest (a.put o.dst v') w') : wpList Try.prog ops Q (o :: rest) a w :=
  wpList_plain hgd fun _ hK => app_one Q0 t e z bytes ht hinfo hzs hsz hbl s x ho S S' v xs hs hv B hx cs y hy hsrc hdis hl fun v' w' h1 h2 h3 => hK _ _ (h v' w' h1 h2 h3)

end Go.Proofs.Ytkamlibfcakblaa
