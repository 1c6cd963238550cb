/- Texts that follow each other, merged: OwnWr, DrawWrts, OwnIt2. -/
import Derived.Test.YtkamlibfcakblaaXStoDoS
import Derived.Maps.AppendAt

/- Slices of writes that the call itself has made, by append. -/
namespace Go.Proofs.Ytkamlibfcakblaa
open Go.RowKit

theorem infoWrite : (Try.prog.info? 86).map (fun i => (i.zero, i.size, i.bytes)) = some (some (.agg #[.string ByteArray.empty, .bool false, .slice none 0 0]), 3, 48) := by kernel_rfl

def wcells : List (Wr × Value) → List Value
  | [] => []
  | p :: ps => .string p.1.key :: .bool p.1.del :: p.2 :: wcells ps
theorem wcells_len (ps : List (Wr × Value)) : (wcells ps).length = ps.length * 3 := by
  induction ps with
  | nil => rfl
  | cons p ps ih => simp [wcells, ih]; omega
theorem wcells_append (ps qs : List (Wr × Value)) : wcells (ps ++ qs) = wcells ps ++ wcells qs := by
  induction ps with
  | nil => rfl
  | cons p ps ih => simp [wcells, ih]
theorem wcells_at {ps : List (Wr × Value)} : ∀ {j : Nat} {p : Wr × Value}, ps[j]? = some p → (wcells ps)[j * 3]? = some (.string p.1.key) ∧ (wcells ps)[j * 3 + 1]? = some (.bool p.1.del) ∧ (wcells ps)[j * 3 + 2]? = some p.2 := by
  induction ps with
  | nil => intro j p h; simp at h
  | cons q ps ih =>
    intro j p h
    cases j with
    | zero =>
      simp at h; subst h
      simp [wcells]
    | succ j =>
      simp at h
      have := ih h
      rw [show (j + 1) * 3 = j * 3 + 1 + 1 + 1 by omega]
      simpa [wcells] using this

/-- A slice of writes in a block of the call's own, from lo on; the numbers of each in some other block of S. -/
def OwnWr (w : World) (lo : Nat) (S : Nat → Prop) (v : Value) (ws : List Wr) : Prop :=
  ∃ ps : List (Wr × Value), ps.map Prod.fst = ws ∧ v ≠ .slice none 0 0 ∧ w.ownsRow lo 86 3 v ps.length (wcells ps) ∧ ∀ p ∈ ps, p.1.key.size ≤ maxLen ∧ IntsIn w (fun b => S b ∧ v.ownBlock ≠ some b) p.2 p.1.val
section
variable {w w' : World} {lo : Nat} {S S' : Nat → Prop} {v : Value} {ws : List Wr}
theorem OwnWr.form (h : OwnWr w lo S v ws) : ∃ g cap, v = .slice (some ⟨g, 0, none⟩) ws.length cap ∧ lo ≤ g ∧ g < w.heap.size ∧ ws.length ≤ cap ∧ cap ≤ maxLen := by
  obtain ⟨ps, rfl, hne, h1, _⟩ := h
  rcases h1.2 with ⟨hv, h0⟩ | ⟨g, cap, cur, hv, hb, hg, hn, hm, _⟩
  · exact absurd hv hne
  · exact ⟨g, cap, by rw [hv, List.length_map], hb, (Array.getElem?_eq_some_iff.1 hg).1, by rw [List.length_map]; exact hn, hm⟩
theorem OwnWr.wrts (h : OwnWr w lo S v ws) : Wrts w w.heap.size v ws := by
  obtain ⟨g, cap, rfl, hlo, hg, hn, hm⟩ := h.form
  obtain ⟨ps, rfl, hne, h1, h3⟩ := h
  rw [List.length_map] at h1
  refine ⟨_, cap, rfl, hn, hm, fun _ => ⟨g, 0, rfl, hg, fun j x hx => ?_⟩⟩
  rw [List.getElem?_map] at hx
  cases hp : ps[j]? with
  | none => rw [hp] at hx; simp at hx
  | some p =>
    rw [hp] at hx
    have hx' : p.1 = x := by simpa using hx
    subst hx'
    have hj : j < ps.length := (List.getElem?_eq_some_iff.1 hp).1
    obtain ⟨a, b⟩ := h3 p (List.mem_of_getElem? hp)
    obtain ⟨c1, c2, c3⟩ := wcells_at hp
    refine ⟨a, ?_, ?_, p.2, ?_, b.ints⟩
    · rw [Nat.zero_add, h1.cellAt (j * 3) (by omega), c1]
    · rw [Nat.zero_add, h1.cellAt (j * 3 + 1) (by omega), c2]
    · rw [Nat.zero_add, h1.cellAt (j * 3 + 2) (by omega), c3]
theorem OwnWr.lt (h : OwnWr w lo S v ws) : ∀ g, v.ownBlock = some g → lo ≤ g ∧ g < w.heap.size := by
  obtain ⟨ps, _, _, h1, _⟩ := h
  exact h1.lt
theorem OwnWr.keep (h : OwnWr w lo S v ws) (hk : ∀ b, b < w.heap.size → S b ∨ lo ≤ b → w'.heap[b]? = w.heap[b]?) (hs : w.heap.size ≤ w'.heap.size) : OwnWr w' lo S v ws := by
  obtain ⟨ps, h0, hne, h1, h3⟩ := h
  refine ⟨ps, h0, hne, ⟨h1.1, ?_⟩, fun p hp => ?_⟩
  · rcases h1.2 with hn | ⟨g, cap, cur, hv, hl, hgg, rest⟩
    · exact .inl hn
    · exact .inr ⟨g, cap, cur, hv, hl, by rw [hk g (Array.getElem?_eq_some_iff.1 hgg).1 (.inr hl)]; exact hgg, rest⟩
  · obtain ⟨a, b⟩ := h3 p hp
    exact ⟨a, b.keep (fun k hk' hS => hk k hk' (.inl hS.1)) hs (fun _ _ h => h)⟩
theorem OwnWr.below (h : OwnWr w lo S v ws) (hb : Below w.heap.size w w') : OwnWr w' lo S v ws := h.keep (fun b hlt _ => hb.block b hlt) hb.size
theorem OwnWr.alloc (h : OwnWr w lo S v ws) (o : Obj) : OwnWr (w.alloc o) lo S v ws := h.below (belowOne w o)
theorem OwnWr.drew {g : Nat} {P : Int} (h : OwnWr w lo (lo ≤ ·) v ws) (hd : Drew g P w w') (hg : g < lo) : OwnWr w' lo (lo ≤ ·) v ws :=
  h.keep (fun b hb hS => hd.2.block b hb (fun e => by have := Option.some.inj e; rcases hS with h | h <;> omega)) hd.2.size
theorem OwnWr.empty (w : World) (lo : Nat) (S : Nat → Prop) (hlo : lo ≤ w.heap.size) : OwnWr (w.alloc (.cells #[] 86)) lo S (.slice (some ⟨w.heap.size, 0, none⟩) 0 0) [] :=
  ⟨[], rfl, by simp, World.ownsRow_made w #[] 0 hlo (Nat.zero_le _) (by simp), fun p hp => by simp at hp⟩
end

set_option maxRecDepth 100000 in
/-- append of some writes. -/
theorem append_writes (w : World) (lo : Nat) (S : Nat → Prop) (v : Value) (ws : List Wr) (hv : OwnWr w lo S v ws) (qs : List (Wr × Value)) (a : Addr) (c : Nat) (hqs : ∀ p ∈ qs, p.1.key.size ≤ maxLen ∧ IntsIn w (fun b => S b ∧ v.ownBlock ≠ some b) p.2 p.1.val)
    (hsrc : ∀ j u, (wcells qs)[j]? = some u → w.cell? (a.add j) = some u) (ty : TypeId) (hl : ws.length + qs.length ≤ 2097152) (hlo : lo ≤ w.heap.size) :
    ∃ v' w', (Builtin.append_ #[34, 34] ty #[v, .slice (some a) qs.length c]).run Try.prog w = .ok v' w' ∧ OwnWr w' lo S v' (ws ++ qs.map Prod.fst) ∧ w.grownBy w' v.ownBlock := by
  obtain ⟨i, hi, hz, hs, hb⟩ := info_parts infoWrite
  obtain ⟨ps, rfl, hne, h1, h3⟩ := hv
  rw [List.length_map] at hl
  have hone : ∀ u ∈ wcells qs, u.oneCell' = true := by
    intro u hu
    obtain ⟨n, hn⟩ := List.mem_iff_getElem?.1 hu
    have hlen := (List.getElem?_eq_some_iff.1 hn).1
    rw [wcells_len] at hlen
    have hq : qs[n / 3]? = some qs[n / 3] := List.getElem?_eq_getElem (by omega)
    obtain ⟨c1, c2, c3⟩ := wcells_at hq
    rcases (by omega : n = n / 3 * 3 ∨ n = n / 3 * 3 + 1 ∨ n = n / 3 * 3 + 2) with h | h | h
    · rw [h, c1] at hn; injection hn with hn; rw [← hn]; rfl
    · rw [h, c2] at hn; injection hn with hn; rw [← hn]; rfl
    · rw [h, c3] at hn; injection hn with hn
      obtain ⟨A, c', e, _⟩ := (hqs _ (List.getElem_mem (show n / 3 < qs.length by omega))).2
      rw [← hn, e]; rfl
  obtain ⟨v', w', hr, h2, hg, hnone, h5⟩ := run_append_own_at (P := Try.prog) w lo 34 ty 86 i _ 3 48 Try.underlying34 hi hz hs hb rfl (by omega) v ps.length _ h1 a qs.length c (wcells qs) (wcells_len qs) hsrc hone (by unfold maxLen; omega) (by omega) hlo
  have hne' : ∀ b, b < w.heap.size → v.ownBlock ≠ some b → v'.ownBlock ≠ some b := by
    intro b hb' hvb e
    rcases h5 with h | h
    · rw [h] at e; exact hvb e
    · rw [h] at e; have := Option.some.inj e; omega
  refine ⟨v', w', hr, ⟨ps ++ qs, by simp, fun e => hne (hnone.1 e).1, ?_, fun p hp => ?_⟩, hg⟩
  · rw [wcells_append, List.length_append]; exact h2
  · have hk : ∀ q : Wr × Value, (q.1.key.size ≤ maxLen ∧ IntsIn w (fun b => S b ∧ v.ownBlock ≠ some b) q.2 q.1.val) → (q.1.key.size ≤ maxLen ∧ IntsIn w' (fun b => S b ∧ v'.ownBlock ≠ some b) q.2 q.1.val) := fun (q : Wr × Value) ⟨x, y⟩ => ⟨x, y.keep (fun k hk hS => hg.block k hk (fun e => hS.2 e.symm)) hg.size (fun k hk hS => ⟨hS.1, hne' k hk hS.2⟩)⟩
    rcases List.mem_append.1 hp with h | h
    · exact hk p (h3 p h)
    · exact hk p (hqs p h)
theorem wpl_append_writes {w : World} {ops : Array Oper} {rest : List Oper} {o : Oper} {a : Act} {Q : Exit → Act → World → Prop} (hgd : o.guard = none) (s x : Operand)
    (ho : o.op = .call { callee := .builtin .append, args := #[s, x], argTypes := #[34, 34] }) (lo : Nat) (S : Nat → Prop) (v : Value) (ws : List Wr) (hs : a.eval s = v) (hv : OwnWr w lo S v ws)
    (qs : List (Wr × Value)) (ad : Addr) (c : Nat) (hx : a.eval x = .slice (some ad) qs.length c) (hqs : ∀ p ∈ qs, p.1.key.size ≤ maxLen ∧ IntsIn w (fun b => S b ∧ v.ownBlock ≠ some b) p.2 p.1.val) (hsrc : ∀ j u, (wcells qs)[j]? = some u → w.cell? (ad.add j) = some u)
    (hl : ws.length + qs.length ≤ 2097152) (hlo : lo ≤ w.heap.size)
    (h : ∀ v' w', OwnWr w' lo S v' (ws ++ qs.map Prod.fst) → w.grownBy w' v.ownBlock → wpList Try.prog ops Q rest (a.put o.dst v') w') : wpList Try.prog ops Q (o :: rest) a w := by
  refine wpList_plain hgd fun K hK => ?_
  obtain ⟨v', w', hr, h2, h3⟩ := append_writes w lo S v ws hv qs ad c hqs hsrc o.type hl hlo
  unfold Oper.wp execOp
  simp only [ho, resolve, invoke, builtin, Sem.run_bind, Sem.run_pure, Result.andThen_ok, List.map_toArray, List.map_cons, List.map_nil, hs, hx, hr]
  exact hK _ _ (h v' w' h2 h3)

end Go.Proofs.Ytkamlibfcakblaa

/- Drawn writes. -/
namespace Go.Proofs.Ytkamlibfcakblaa
open Go.RowKit

theorem heldAdd {w : World} {g : Nat} {cs : List Value} (h : Held w g cs) : ∀ (j : Nat) (u : Value), cs[j]? = some u → w.cell? ((⟨g, 0, none⟩ : Addr).add j) = some u := by
  intro j u hu
  rw [← h.2.2 j u hu]
  congr 1
  unfold Addr.add
  by_cases h : j = 0 <;> simp [h]
/-- What is appended: one write, just made. -/
theorem oneWrite {w w1 w2 : World} {lo : Nat} {out : Value} {ws : List Wr} {s : ByteArray} {d : Bool} {A : Option Addr} {c : Nat} {xs : List Int} (hown : OwnWr w1 lo (lo ≤ ·) out ws) (hs : s.size ≤ 1000002) (hu : OwnInts w2 w1.heap.size (.slice A xs.length c) xs) (hlo : lo ≤ w1.heap.size) (o : Obj) (e : w = w2.alloc o) :
    ∀ p ∈ [((⟨s, d, xs⟩, .slice A xs.length c) : Wr × Value)], p.1.key.size ≤ maxLen ∧ IntsIn w (fun b => lo ≤ b ∧ out.ownBlock ≠ some b) p.2 p.1.val := by
  intro p hp
  have : p = ((⟨s, d, xs⟩, .slice A xs.length c) : Wr × Value) := by simpa using hp
  subst this
  subst e
  exact ⟨by unfold maxLen; show s.size ≤ _; omega, (hu.alloc o).toIn.keep (fun _ _ _ => rfl) (Nat.le_refl _) fun b _ hb => ⟨Nat.le_trans hlo hb, fun h => by have := (hown.lt b h).2; omega⟩⟩

set_option maxRecDepth 100000 in
set_option maxHeartbeats 1000000 in
theorem l20Writes_any (w : World) (g : Nat) (P n : Int) (hr : Rds w g P) (hP0 : 0 ≤ P) (hP : P ≤ 700000000) (hn : n ≤ 1000000) :
    Calls Try.prog 115 #[.pointer (some ⟨g, 0, none⟩), .int .i64 n] w fun e w' => ∃ v ws, e = .returned v ∧ ws.length ≤ 6 ∧ OwnWr w' w.heap.size (w.heap.size ≤ ·) v ws ∧ Drew g (P + 300) w w' := by
  have hgw := hr.lt
  have HA := Lib.hid (show Drew g P w (w.alloc (.cells #[] 86)) from ⟨hr.alloc _, World.grownBy_alloc _ _ _⟩)
  have HO := Lib.hid (OwnWr.empty w w.heap.size (w.heap.size ≤ ·) (Nat.le_refl _))
  clear hr
  go_enter Try.func115, Try.ntmps115
  go_wp2_with fail
  refine (pick_rds _ g _ _ HA.out.1 (by omega) (by omega)).mono ?_
  rintro e w2 ⟨k, rfl, hk0, hk1, hd2⟩
  obtain ⟨k, rfl⟩ := Int.eq_ofNat_of_zero_le hk0
  have hk : k < 6 := by have := hk1 (by omega); omega
  have HD2 := Lib.hid (HA.out.trans hd2)
  have HO2 := Lib.hid (HO.out.drew hd2 hgw)
  clear hk0 hk1 hd2 HA HO
  go_wp2
  go_loopw [5, 6] (fun a b wr => ∃ (ws : List Wr) (j : Nat), OwnWr wr w.heap.size (w.heap.size ≤ ·) a ws ∧ b = .int .i64 j ∧ j ≤ 5 ∧ ws.length + j ≤ 5 ∧ Drew g (P + 201 - 40 * j) w wr) (fun _ b _ => (intOf b).toNat)
  case atStart => exact ⟨[], k, HO2.out, rfl, by omega, by simp; omega, HD2.out.1.more (by omega), HD2.out.2⟩
  case round =>
    clear HD2 HO2
    obtain ⟨ws, j, hown, rfl, hj2, hxj, hd⟩ := hrel
    obtain ⟨go, co, rfl, -, -, -, -⟩ := hown.form
    have HO := Lib.hid hown
    have HD := Lib.hid hd
    have hz : w.heap.size ≤ wr.heap.size := hd.2.size
    clear hown hd
    by_cases hj : 0 < j
    · go_wp2_with fail
      refine (l20Write_any _ g _ _ HD.out.1 (by omega) (by omega) (by omega)).mono ?_
      rintro e w3 ⟨s, d, v, xs, rfl, hs, hxs, hown3, hd3⟩
      obtain ⟨Av, cv, hvf, -, -⟩ := hown3.ints.form
      subst hvf
      have HD3 := Lib.hid (HD.out.trans hd3)
      have HQ := Lib.hid (oneWrite (w := w3.alloc (.cells #[.string s, .bool d, .slice Av xs.length cv] 86)) (d := d) HO.out hs hown3 hz _ rfl)
      have HO3 := Lib.hid ((HO.out.drew hd3 hgw).alloc (.cells #[.string s, .bool d, .slice Av xs.length cv] 86))
      have HS3 := Lib.hid (Held.new w3 #[.string s, .bool d, .slice Av xs.length cv] 86)
      have hz3 : w.heap.size ≤ w3.heap.size := Nat.le_trans hz hd3.2.size
      clear hd3 hown3 HD HO hz
      go_wp2_with (at_builtin; refine wpl_append_writes rfl _ _ rfl w.heap.size _ _ ws rfl HO3.out [((⟨s, d, xs⟩, .slice Av xs.length cv) : Wr × Value)] ⟨w3.heap.size, 0, none⟩ 1 rfl HQ.out (heldAdd HS3.out) (by simp; omega) (by simp; omega) ?_; intro u w4 hown4 hg4; have HO4 := Lib.hid hown4; have HG4 := Lib.hid hg4; clear hown4 hg4)
      have HD4 := Lib.hid ((HD3.out.alloc _).grown HG4.out (fun k hk => (HO3.out.lt k hk).1) hgw)
      clear HD3 HO3 HG4
      go_wp2
      go_roundw
      case rel => exact ⟨ws ++ [⟨s, d, xs⟩], j - 1, HO4.out, by go_num, by omega, by simp; omega, HD4.out.1.more (by omega), HD4.out.2⟩
      case measure => simp [intOf]; omega
    · go_wp2_with fail
      refine (odd_any _ g _ _ HD.out.1 (by omega) hn).mono ?_
      rintro e w5 ⟨bb, rfl, hbb, hd5⟩
      have HD5 := Lib.hid (HD.out.trans hd5)
      have HO5 := Lib.hid (HO.out.drew hd5 hgw)
      have hz5 : w.heap.size ≤ w5.heap.size := Nat.le_trans hz hd5.2.size
      clear hbb hd5 HD HO hz
      cases bb
      · go_wp2
        go_ret
        exact ⟨_, ws, rfl, by omega, HO5.out, HD5.out.1.more (by omega), HD5.out.2⟩
      · go_wp2_with fail
        refine (l20Write_any _ g _ _ HD5.out.1 (by omega) (by omega) (by omega)).mono ?_
        rintro e w3 ⟨s, d, v, xs, rfl, hs, hxs, hown3, hd3⟩
        obtain ⟨Av, cv, hvf, -, -⟩ := hown3.ints.form
        subst hvf
        have HD3 := Lib.hid (HD5.out.trans hd3)
        have HQ := Lib.hid (oneWrite (w := w3.alloc (.cells #[.string s, .bool d, .slice Av xs.length cv] 86)) (d := d) HO5.out hs hown3 hz5 _ rfl)
        have HO3 := Lib.hid ((HO5.out.drew hd3 hgw).alloc (.cells #[.string s, .bool d, .slice Av xs.length cv] 86))
        have HS3 := Lib.hid (Held.new w3 #[.string s, .bool d, .slice Av xs.length cv] 86)
        have hz3 : w.heap.size ≤ w3.heap.size := Nat.le_trans hz5 hd3.2.size
        clear hd3 hown3 HD5 HO5 hz5
        go_wp2_with (at_builtin; refine wpl_append_writes rfl _ _ rfl w.heap.size _ _ ws rfl HO3.out [((⟨s, d, xs⟩, .slice Av xs.length cv) : Wr × Value)] ⟨w3.heap.size, 0, none⟩ 1 rfl HQ.out (heldAdd HS3.out) (by simp; omega) (by simp; omega) ?_; intro u w4 hown4 hg4; have HO4 := Lib.hid hown4; have HG4 := Lib.hid hg4; clear hown4 hg4)
        have HD4 := Lib.hid ((HD3.out.alloc _).grown HG4.out (fun k hk => (HO3.out.lt k hk).1) hgw)
        clear HD3 HO3 HG4
        go_wp2
        go_ret
        exact ⟨u, ws ++ [⟨s, d, xs⟩], rfl, by simp; omega, HO4.out, HD4.out.1.more (by omega), HD4.out.2⟩

end Go.Proofs.Ytkamlibfcakblaa

/- append of one thing, once more: where the new slice lies. What the model's StoDo leaves is short. -/
namespace Go.Proofs.Ytkamlibfcakblaa
open Go.RowKit

set_option maxRecDepth 100000 in
/-- append of one thing that lies in a block of its own. -/
theorem append_item2 (w : World) (lo : Nat) (S : Nat → Prop) (v : Value) (its : List Item) (hv : OwnIt w lo S v its) (it : Item) (A : Option Addr) (n c B : Nat) (hks : it.key.size ≤ maxLen)
    (hu : IntsIn w (fun b => S b ∧ v.ownBlock ≠ some b) (.slice A n c) it.val) (hsrc : Held w B [.string it.key, .slice A n c]) (ty : TypeId) (hl : its.length ≤ 2097152) (hlo : lo ≤ w.heap.size) :
    ∃ v' w', (Builtin.append_ #[52, 52] ty #[v, .slice (some ⟨B, 0, none⟩) 1 1]).run Try.prog w = .ok v' w' ∧ OwnIt w' lo S v' (its ++ [it]) ∧ w.grownBy w' v.ownBlock ∧ (v'.ownBlock = v.ownBlock ∨ v'.ownBlock = some w.heap.size) := by
  obtain ⟨i, hi, hz, hs, hb⟩ := info_parts infoItem
  obtain ⟨U, h1, h3⟩ := hv
  obtain ⟨g, cap, w', hr, h2, hg, hwhere, hlt⟩ := run_append_lies (P := Try.prog) w 52 ty lo 104 i _ 2 40 Try.underlying52 hi hz hs hb rfl (by omega) v its.length _ h1 ⟨B, 0, none⟩ 1 1 [.string it.key, .slice A n c] rfl
    (fun j u hu => by
      have := hsrc.2.2 j u hu
      rw [← this]; congr 1
      unfold Addr.add
      by_cases h : j = 0 <;> simp [h])
    (by intro u hu; simp at hu; rcases hu with rfl | rfl <;> rfl) (by omega) (by unfold maxLen; omega) (by omega) hlo w.heap.size rfl
  have hne : ∀ b, b < w.heap.size → v.ownBlock ≠ some b → (Value.slice (some ⟨g, 0, none⟩) (its.length + 1) cap).ownBlock ≠ some b := by
    intro b hb' hvb e
    have e' : g = b := Option.some.inj e
    rcases hwhere with h | h
    · rw [h, e'] at hvb; exact hvb rfl
    · omega
  have hlen : (its ++ [it]).length = its.length + 1 := by simp
  refine ⟨_, w', hr, ⟨upd U its.length (.slice A n c), ?_, fun j x hx => ?_⟩, hg, hwhere.elim (fun h => .inl h.symm) (fun h => .inr (by show some g = _; rw [h]))⟩
  · rw [cellsU_snoc, hlen]; exact h2
  · rcases Nat.lt_or_ge j its.length with hj | hj
    · rw [List.getElem?_append_left hj] at hx
      obtain ⟨a, b⟩ := h3 j x hx
      rw [upd_other _ _ (by omega)]
      exact ⟨a, b.keep (fun k hk hS => hg.block k hk (fun e => hS.2 e.symm)) hg.size (fun k hk hS => ⟨hS.1, hne k hk hS.2⟩)⟩
    · have hjl : j = its.length := by
        have := (List.getElem?_eq_some_iff.1 hx).1
        simp at this; omega
      subst hjl
      have hx' : it = x := by simpa using hx
      subst hx'
      rw [upd_same]
      exact ⟨hks, hu.keep (fun k hk hS => hg.block k hk (fun e => hS.2 e.symm)) hg.size (fun k hk hS => ⟨hS.1, hne k hk hS.2⟩)⟩

theorem wpl_append_item2 {w : World} {ops : Array Oper} {rest : List Oper} {o : Oper} {a : Act} {Q : Exit → Act → World → Prop} (hgd : o.guard = none) (s x : Operand)
    (ho : o.op = .call { callee := .builtin .append, args := #[s, x], argTypes := #[52, 52] }) (lo : Nat) (S : Nat → Prop) (v : Value) (its : List Item) (hs : a.eval s = v) (hv : OwnIt w lo S v its)
    (it : Item) (A : Option Addr) (n c B : Nat) (hx : a.eval x = .slice (some ⟨B, 0, none⟩) 1 1) (hks : it.key.size ≤ maxLen) (hu : IntsIn w (fun b => S b ∧ v.ownBlock ≠ some b) (.slice A n c) it.val)
    (hsrc : Held w B [.string it.key, .slice A n c]) (hl : its.length ≤ 2097152) (hlo : lo ≤ w.heap.size)
    (h : ∀ v' w', OwnIt w' lo S v' (its ++ [it]) → w.grownBy w' v.ownBlock → (v'.ownBlock = v.ownBlock ∨ v'.ownBlock = some w.heap.size) → wpList Try.prog ops Q rest (a.put o.dst v') w') : wpList Try.prog ops Q (o :: rest) a w := by
  refine wpList_plain hgd fun K hK => ?_
  obtain ⟨v', w', hr, h2, h3, h4⟩ := append_item2 w lo S v its hv it A n c B hks hu hsrc o.type hl hlo
  unfold Oper.wp execOp
  simp only [ho, resolve, invoke, builtin, Sem.run_bind, Sem.run_pure, Result.andThen_ok, List.map_toArray, List.map_cons, List.map_nil, hs, hx, hr]
  exact hK _ _ (h v' w' h2 h3 h4)
/-- The same, in a region that draws. -/
theorem step_append_item2 {w : World} {ops : Array Oper} {o : Oper} {a : Act} {K : Act → World → Prop} {Q : Exit → Act → World → Prop} {E : Prop} (hgd : o.guard = none) (s x : Operand)
    (ho : o.op = .call { callee := .builtin .append, args := #[s, x], argTypes := #[52, 52] }) (lo : Nat) (S : Nat → Prop) (v : Value) (its : List Item) (hs : a.eval s = v) (hv : OwnIt w lo S v its)
    (it : Item) (A : Option Addr) (n c B : Nat) (hx : a.eval x = .slice (some ⟨B, 0, none⟩) 1 1) (hks : it.key.size ≤ maxLen) (hu : IntsIn w (fun b => S b ∧ v.ownBlock ≠ some b) (.slice A n c) it.val)
    (hsrc : Held w B [.string it.key, .slice A n c]) (hl : its.length ≤ 2097152) (hlo : lo ≤ w.heap.size)
    (h : ∀ v' w', OwnIt w' lo S v' (its ++ [it]) → w.grownBy w' v.ownBlock → (v'.ownBlock = v.ownBlock ∨ v'.ownBlock = some w.heap.size) → K (a.put o.dst v') w') : if Region.wanted o (yielded ops a.tmps) = true then Oper.wp Try.prog o a w K Q else E := by
  have hw : Region.wanted o (yielded ops a.tmps) = true := by simp [Region.wanted, hgd]
  rw [if_pos hw]
  obtain ⟨v', w', hr, h2, h3, h4⟩ := append_item2 w lo S v its hv it A n c B hks hu hsrc o.type hl hlo
  unfold Oper.wp execOp
  simp only [ho, resolve, invoke, builtin, Sem.run_bind, Sem.run_pure, Result.andThen_ok, List.map_toArray, List.map_cons, List.map_nil, hs, hx, hr]
  exact h v' w' h2 h3 h4

section
variable {w w' : World} {lo : Nat} {S S' : Nat → Prop} {v : Value} {its : List Item}
theorem OwnIt.keep2 (h : OwnIt w lo S v its) (hk : ∀ b, b < w.heap.size → S b ∨ v.ownBlock = some b → w'.heap[b]? = w.heap[b]?) (hs : w.heap.size ≤ w'.heap.size) : OwnIt w' lo S v its := by
  obtain ⟨U, h1, h3⟩ := h
  refine ⟨U, ⟨h1.1, ?_⟩, fun j it hit => ?_⟩
  · rcases h1.2 with hn | ⟨g, cap, cur, hv, hl, hgg, rest⟩
    · exact .inl hn
    · exact .inr ⟨g, cap, cur, hv, hl, by rw [hk g (Array.getElem?_eq_some_iff.1 hgg).1 (.inr (by rw [hv]; rfl))]; exact hgg, rest⟩
  · obtain ⟨a, b⟩ := h3 j it hit
    exact ⟨a, b.keep (fun k hk' hS => hk k hk' (.inl hS.1)) hs (fun _ _ h => h)⟩
theorem OwnIt.setCell2 (h : OwnIt w lo S v its) {p : Addr} (hp : ¬ S p.block) (hl : v.ownBlock ≠ some p.block) (u : Value) : OwnIt (w.setCell p u) lo S v its :=
  h.keep2 (fun b _ hb => Below.heap_setCell w p u b (fun e => by subst e; rcases hb with hb | hb; exact hp hb; exact hl hb)) (by simp [World.setCell])
end
theorem OwnWr.source {w : World} {lo : Nat} {S : Nat → Prop} {v : Value} {ws : List Wr} (h : OwnWr w lo S v ws) : ∃ (qs : List (Wr × Value)) (g cap : Nat), qs.map Prod.fst = ws ∧ v = .slice (some ⟨g, 0, none⟩) qs.length cap ∧ (∀ j u, (wcells qs)[j]? = some u → w.cell? ((⟨g, 0, none⟩ : Addr).add j) = some u) ∧
    ∀ p ∈ qs, p.1.key.size ≤ maxLen ∧ IntsIn w S p.2 p.1.val := by
  obtain ⟨g, cap, rfl, _⟩ := h.form
  obtain ⟨ps, rfl, _, h1, h3⟩ := h
  rw [List.length_map] at h1
  refine ⟨ps, g, cap, rfl, by rw [List.length_map], h1.cells rfl, fun p hp => ?_⟩
  obtain ⟨a, b⟩ := h3 p hp
  exact ⟨a, b.keep (fun _ _ _ => rfl) (Nat.le_refl _) (fun _ _ h => h.1)⟩

theorem doStep_fine {o : Option (List Item)} {x : Wr} (h : ∀ cur, o = some cur → cur.length ≤ 40 ∧ Fine cur) : ∀ cur, doStep o x = some cur → cur.length ≤ 40 ∧ Fine cur := by
  intro cur hc
  cases o with
  | none => simp [doStep] at hc
  | some its =>
    unfold doStep at hc
    simp only [Option.bind_some] at hc
    split at hc
    · next hok =>
      split at hc
      · cases hc
      · next hlen =>
        injection hc with hc
        subst hc
        exact ⟨by omega, (h its rfl).2.wAll (Wr.fine hok)⟩
    · cases hc
theorem doFold_fine (ws : List Wr) : ∀ {o : Option (List Item)}, (∀ cur, o = some cur → cur.length ≤ 40 ∧ Fine cur) → ∀ cur, ws.foldl doStep o = some cur → cur.length ≤ 40 ∧ Fine cur := by
  induction ws with
  | nil => intro o h cur hc; exact h cur hc
  | cons x ws ih => intro o h cur hc; exact ih (doStep_fine h) cur hc
theorem stoDo_fine (its : List Item) (ws : List Wr) : (stoDo its ws).length ≤ 40 ∧ Fine (stoDo its ws) := by
  unfold stoDo
  cases hd : doAll its ws with
  | none => exact ⟨by simp, fun _ h => by simp at h⟩
  | some cur =>
    unfold doAll at hd
    split at hd
    · next hs => exact doFold_fine ws (fun c hc => by injection hc with hc; rw [← hc]; exact stoB_fine hs) cur hd
    · cases hd

end Go.Proofs.Ytkamlibfcakblaa
