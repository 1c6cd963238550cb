/- Texts that follow each other, merged: Committed, FoldU. -/
import Derived.Test.YtkamlibfcakblaaXLastKind
import Derived.Test.YtkamlibfcakblaaXShalW
import Derived.Test.YtkamlibfcakblaaXInDoubt
import Derived.Test.YtkamlibfcakblaaXDiskList

/- What committed answers: what the last note of one who is ready, ahead of a note, writes. -/
namespace Go.Proofs.Ytkamlibfcakblaa
open Go.RowKit Go.Shelf

attribute [local go_sem] Oper.semAt_some

/-- What holds while committed looks: behind what, the result, the marker, the ring. -/
structure CmW (w : World) (n0 : Nat) (B : Nat) (L : List Nat) (ns : List Note) (p : Nat) (r : Value) (W : World) : Prop where
  tx : Held W (w.heap.size + 1) [.pointer (some ⟨at_ L p, 0, none⟩)]
  res : Held W (w.heap.size + 1 + 1) [r]
  mrk : Held W (w.heap.size + 1 + 1 + 1) [.pointer (some ⟨at_ L 0, 0, none⟩)]
  ring : Ring W B L ns
  bel : Below w.heap.size w W
  size : n0 ≤ W.heap.size
theorem CmW.below {w : World} {n0 B : Nat} {L : List Nat} {ns : List Note} {p : Nat} {r : Value} {W W' : World} (h : CmW w n0 B L ns p r W) (hn : w.heap.size + 1 + 1 + 1 < n0) (hR : ∀ i, i < L.length → at_ L i < w.heap.size) (hB : B ≤ w.heap.size) (hb : Below n0 W W') : CmW w n0 B L ns p r W' :=
  ⟨h.tx.below hb (by omega), h.res.below hb (by omega), h.mrk.below hb (by omega), h.ring.below hb (by omega) (fun i hi => by have := hR i hi; omega), h.bel.trans (hb.mono (by omega)), Nat.le_trans h.size hb.size⟩

theorem CmW.put {w : World} {n0 B : Nat} {L : List Nat} {ns : List Note} {p : Nat} {r : Value} {W : World} (h : CmW w n0 B L ns p r W) (hR : ∀ i, i < L.length → at_ L i < w.heap.size) (hB : B ≤ w.heap.size) (k : Value) : CmW w n0 B L ns p k (W.setCell ⟨w.heap.size + 1 + 1, 0, none⟩ k) :=
  ⟨h.tx.farS (by show _ ≠ w.heap.size + 1 + 1; omega) _, h.res.set_ (i := 0) _, h.mrk.farS (by show _ ≠ w.heap.size + 1 + 1; omega) _, h.ring.below (n := w.heap.size) ((Below.refl _ _).setCell (by show w.heap.size ≤ w.heap.size + 1 + 1; omega) _) hB hR, h.bel.setCell (by show w.heap.size ≤ w.heap.size + 1 + 1; omega) _, by simpa [World.setCell] using h.size⟩
theorem down_le {n : Nat} : ∀ {s : Nat} {h : s ≤ n} {x : Spot n}, x ∈ down n s h → x.1 ≤ s
  | 0, _, x, hx => by simp [down] at hx
  | s + 1, h, x, hx => by
    simp only [down, List.mem_cons] at hx
    rcases hx with rfl | hx
    · exact Nat.le_refl _
    · have := down_le hx; omega
theorem com_none {ns : List Note} {tx : Int} {s : Nat} {hs : s ≤ ns.length} (h : ∀ y ∈ down ns.length s hs, rdyB tx (noteAt ns y) = false) : comW (ns.take s) tx = [] := comW_none (readyN_none hs fun j z hj hz => by
  obtain ⟨y, hy, e⟩ := mem_down (h := hs) (show 1 ≤ j + 1 by omega) (show j + 1 ≤ s by omega)
  rw [← noteAt_get hz e]; exact h y hy)
theorem com_at {ns : List Note} {tx : Int} {s : Nat} {hs : s ≤ ns.length} {pre : List (Spot ns.length)} {x : Spot ns.length} (hp : pre ++ [x] <+: down ns.length s hs) (hpre : ∀ y ∈ pre, rdyB tx (noteAt ns y) = false) (hx : rdyB tx (noteAt ns x) = true) : comW (ns.take s) tx = (noteAt ns x).writes := by
  have h2 := x.2
  have hg : ns[x.1 - 1]? = some (noteAt ns x) := List.getElem?_eq_getElem (by omega)
  have hle := down_le (hp.subset (by simp : x ∈ pre ++ [x]))
  refine comW_some (readyN_stop (k := x.1 - 1) (by omega) hs hg hx fun j y hj hjs hy => ?_)
  obtain ⟨z, hz, e⟩ := pre_down hp (j + 1) (by omega) (by omega)
  rw [← noteAt_get hy e]; exact hpre z hz

set_option maxRecDepth 100000 in
set_option maxHeartbeats 8000000 in
theorem committed_any (w : World) (B : Nat) (L : List Nat) (ns : List Note) (p : Nat) (hp1 : 1 ≤ p) (hpl : p ≤ ns.length) (yy : Note) (hyy : ns[p - 1]? = some yy) (hR : Ring w B L ns) :
    Calls Try.prog 82 #[.agg #[ptr (at_ L 0)], ptr (at_ L p)] w fun e W' => ∃ v, e = .returned v ∧ wrSh.Row W' B v (comW (ns.take (p - 1)) yy.tx) ∧ Below w.heap.size w W' := by
  refine (callsIn_wide (n := 5)).1 ?_
  obtain ⟨F, hF⟩ : ∃ F, F = Fence.wide := ⟨_, rfl⟩
  have hro : F.round = none := by rw [hF]; rfl
  have hfn : ∀ f, F.fn f := by rw [hF]; exact fun _ => trivial
  rw [← hF]
  have HFw := Lib.hid hF
  clear hF
  obtain ⟨d, hd5⟩ : ∃ d, d = 5 := ⟨_, rfl⟩
  rw [← hd5]
  have hd : 3 ≤ d := by omega
  have h1 : 1 ≤ d := by omega
  have hg := hfn 82
  have hb := hfn 105
  have hb1 := hfn 133
  clear hd5
  have HBi := Lib.hid (before_in F (d - 1) hb hro (at_ L 0) (at_ L p))
  have hB5 : Below w.heap.size w (((((w.alloc (.cells #[.pointer (some ⟨at_ L 0, 0, none⟩)] 79)).alloc (.cells #[.pointer (some ⟨at_ L p, 0, none⟩)] 77)).alloc (.cells #[.slice none 0 0] 34)).alloc (.cells #[.pointer (some ⟨at_ L 0, 0, none⟩)] 79)).alloc (.cells #[.pointer (some ⟨at_ L p, 0, none⟩)] 77)) :=
    ((belowThree _ _ _ _).alloc (by simp; omega) _).alloc (by simp; omega) _
  have HK : Hid (CmW w (w.heap.size + 1 + 1 + 1 + 1 + 1) B L ns p (.slice none 0 0) (((((w.alloc (.cells #[.pointer (some ⟨at_ L 0, 0, none⟩)] 79)).alloc (.cells #[.pointer (some ⟨at_ L p, 0, none⟩)] 77)).alloc (.cells #[.slice none 0 0] 34)).alloc (.cells #[.pointer (some ⟨at_ L 0, 0, none⟩)] 79)).alloc (.cells #[.pointer (some ⟨at_ L p, 0, none⟩)] 77)) ∧ Held (((((w.alloc (.cells #[.pointer (some ⟨at_ L 0, 0, none⟩)] 79)).alloc (.cells #[.pointer (some ⟨at_ L p, 0, none⟩)] 77)).alloc (.cells #[.slice none 0 0] 34)).alloc (.cells #[.pointer (some ⟨at_ L 0, 0, none⟩)] 79)).alloc (.cells #[.pointer (some ⟨at_ L p, 0, none⟩)] 77)) (w.heap.size + 1 + 1 + 1 + 1) [.pointer (some ⟨at_ L p, 0, none⟩)]) := Lib.hid
    ⟨⟨((((Held.new (w.alloc (.cells #[.pointer (some ⟨at_ L 0, 0, none⟩)] 79)) #[.pointer (some ⟨at_ L p, 0, none⟩)] 77).after _).after _).after _).lit (by simp), (((Held.new ((w.alloc (.cells #[.pointer (some ⟨at_ L 0, 0, none⟩)] 79)).alloc (.cells #[.pointer (some ⟨at_ L p, 0, none⟩)] 77)) #[.slice none 0 0] 34).after _).after _).lit (by simp), ((Held.new (((w.alloc (.cells #[.pointer (some ⟨at_ L 0, 0, none⟩)] 79)).alloc (.cells #[.pointer (some ⟨at_ L p, 0, none⟩)] 77)).alloc (.cells #[.slice none 0 0] 34)) #[.pointer (some ⟨at_ L 0, 0, none⟩)] 79).after _).lit (by simp), hR.onward hB5, hB5, by simp⟩,
      (Held.new ((((w.alloc (.cells #[.pointer (some ⟨at_ L 0, 0, none⟩)] 79)).alloc (.cells #[.pointer (some ⟨at_ L p, 0, none⟩)] 77)).alloc (.cells #[.slice none 0 0] 34)).alloc (.cells #[.pointer (some ⟨at_ L 0, 0, none⟩)] 79)) #[.pointer (some ⟨at_ L p, 0, none⟩)] 77).lit (by simp)⟩
  have hz5 : (((((w.alloc (.cells #[.pointer (some ⟨at_ L 0, 0, none⟩)] 79)).alloc (.cells #[.pointer (some ⟨at_ L p, 0, none⟩)] 77)).alloc (.cells #[.slice none 0 0] 34)).alloc (.cells #[.pointer (some ⟨at_ L 0, 0, none⟩)] 79)).alloc (.cells #[.pointer (some ⟨at_ L p, 0, none⟩)] 77)).heap.size = w.heap.size + 1 + 1 + 1 + 1 + 1 := by simp
  have HZ := Lib.hid hz5
  have hlt := hR.lt
  have hBw := hR.size
  have hlen := hR.len
  clear hB5 hz5 hR
  unfold ptr at HBi ⊢
  refine callsIn_of_wp_marks Try.func82 rfl hg ?_ hro
  simp only [Try.ntmps82, List.size_toArray, List.length_cons, List.length_nil, Nat.reduceAdd, Nat.reduceSub, Array.replicate_succ, Array.replicate_zero, List.push_toArray, List.append_toArray, List.nil_append, List.cons_append]
  gi_wp2_with (gi_at_call 105; refine (HBi.out _).mono ?_; rintro e w' ⟨rfl, rfl⟩)
  generalize (((((w.alloc (.cells #[.pointer (some ⟨at_ L 0, 0, none⟩)] 79)).alloc (.cells #[.pointer (some ⟨at_ L p, 0, none⟩)] 77)).alloc (.cells #[.slice none 0 0] 34)).alloc (.cells #[.pointer (some ⟨at_ L 0, 0, none⟩)] 79)).alloc (.cells #[.pointer (some ⟨at_ L p, 0, none⟩)] 77)) = W0 at *
  have hz0 : w.heap.size + 1 + 1 + 1 + 1 + 1 = W0.heap.size := HZ.out.symm
  refine wpIn_rangeFunc_ownF hro h1 (gf := 133) (lb := #[.pointer (some ⟨w.heap.size + 1 + 1 + 1 + 1, 0, none⟩), .pointer (some ⟨w.heap.size + 1 + 1 + 1, 0, none⟩)]) rfl hb1 (enters_of Try.func133 (by kernel_rfl) rfl)
    (before_stops F (d - 1) hb1 hro (by omega) (w.heap.size + 1 + 1 + 1 + 1) (w.heap.size + 1 + 1 + 1) B W0.heap.size L ns p (p - 1) (by rw [hlen]; omega) (by omega) (by unfold pre_; rw [if_neg (by omega)]) W0 (by omega) (by omega) (by omega) (HK.out.2.of 0 _ rfl) (HK.out.1.mrk.of 0 _ rfl) HK.out.1.ring (fun i hi => by have := hlt i hi; omega) (by omega)) belowK_t (belowK_b (Nat.le_refl _)) (Below.refl _ _) (fun _ => rfl)
    (fun pre W => (∀ y ∈ pre, rdyB yy.tx (noteAt ns y) = false) ∧ CmW w W0.heap.size B L ns p (.slice none 0 0) W)
    (fun c pre W => c = .ret ∧ ∃ p0 x A c, pre = p0 ++ [x] ∧ (∀ y ∈ p0, rdyB yy.tx (noteAt ns y) = false) ∧ rdyB yy.tx (noteAt ns x) = true ∧ wrSh.Row W B (.slice A (noteAt ns x).writes.length c) (noteAt ns x).writes ∧ CmW w W0.heap.size B L ns p (.slice A (noteAt ns x).writes.length c) W)
    (ownFrom_of _ (fun s W h => h.2.size) (fun s W W' h hb => ⟨h.1, h.2.below (by omega) hlt hBw hb⟩))
    (fun c => ownFrom_of _ (fun s W h => by obtain ⟨_, _, _, _, _, _, _, _, _, h⟩ := h; exact h.size) (fun s W W' h hb => by obtain ⟨h0, p0, x, A, c, h1, h2, h3, h4, h5⟩ := h; exact ⟨h0, p0, x, A, c, h1, h2, h3, h4.below (hb.mono (by omega)), h5.below (by omega) hlt hBw hb⟩))
    ⟨by simp, hz0 ▸ HK.out.1⟩
    (fun x => { tmps := #[.agg #[.pointer (some ⟨at_ L 0, 0, none⟩)], .pointer (some ⟨at_ L p, 0, none⟩), .pointer (some ⟨w.heap.size, 0, none⟩), .pointer (some ⟨w.heap.size + 1, 0, none⟩), .pointer (some ⟨w.heap.size + 1 + 1, 0, none⟩), .pointer (some ⟨at_ L x.1, 0, none⟩), .agg #[.pointer (some ⟨at_ L 0, 0, none⟩)], .pointer (some ⟨at_ L p, 0, none⟩),
      .func (.func 133) #[] #[.pointer (some ⟨w.heap.size + 1 + 1 + 1 + 1, 0, none⟩), .pointer (some ⟨w.heap.size + 1 + 1 + 1, 0, none⟩)], .pointer (some ⟨at_ L x.1, 0, none⟩), undef, undef, undef, undef, undef, undef, undef, undef, undef, undef, undef, undef, undef, undef, undef, undef, undef, undef, undef, undef, undef, undef, undef, undef], defers := [] }) ?assign ?body ?done ?stop
  case assign =>
    intro l x W K hK
    unfold ptr
    gi_wp2
    exact hK
  case body =>
    rintro l pre x W ⟨hpre, hK⟩ _
    obtain ⟨y, A1, c1, A2, c2, hy, q0, q1, -, q3, hrel⟩ := hK.ring.at_ (k := x.1 - 1) (by have := x.2; omega)
    have hxe : x.1 - 1 + 1 = x.1 := by have := x.2; omega
    rw [hxe] at q0 q1 q3
    obtain ⟨y', _, _, _, _, hy', -, q1', -, -, -⟩ := hK.ring.at_ (k := p - 1) (by omega)
    rw [hyy] at hy'
    cases hy'
    rw [show p - 1 + 1 = p by omega] at q1'
    have hyn : noteAt ns x = y := noteAt_get hy hxe.symm
    have t0 := hK.tx.of 0 _ rfl
    have r0 := hK.res.of 0 _ rfl
    have rf := hK.res.2.1 0
    obtain ⟨_, _, hrf, -, hr2⟩ := note_rel.1 hrel
    cases hrf
    have k0 : W.drew.cell? ⟨w.heap.size + 1, 0, none⟩ = some (.pointer (some ⟨at_ L p, 0, none⟩)) ∧ W.drew.cell? ⟨at_ L x.1, 0, none⟩ = some (.int .i64 y.kind) ∧ W.drew.cell? ⟨at_ L x.1, 1, none⟩ = some (.int .i64 y.tx) ∧ W.drew.cell? ⟨at_ L p, 1, none⟩ = some (.int .i64 yy.tx) := ⟨hK.tx.of 0 _ rfl, q0, q1, q1'⟩
    have q4 : W.drew.cell? ⟨at_ L x.1, 3, none⟩ = some (.slice A2 y.writes.length c2) := q3
    have r2 : W.drew.cell? ⟨w.heap.size + 1 + 1, 0, none⟩ = some (.slice none 0 0) := r0
    have rf2 : W.drew.frozen? ⟨w.heap.size + 1 + 1, 0, none⟩ = false := rf
    have HR2 := Lib.hid hr2
    have HK := Lib.hid hK
    have HP := Lib.hid hpre
    have HY := Lib.hid hyn
    clear hK hpre hyn hy hxe hrel hr2 q0 q1 q1' q3 t0 r0 rf
    by_cases h1 : y.tx = yy.tx
    · have e1 : (y.tx == yy.tx) = true := by simp [h1]
      by_cases h2 : y.kind = 1
      · have e2 : (y.kind == 1) = true := by simp [h2]
        have HH : Hid (rdyB yy.tx (noteAt ns x) = true) := Lib.hid (by rw [HY.out]; exact rdyB_yes h2 h1)
        clear h1 h2
        gi_wp2
        refine region_h_in HFw.out (S := (fun w' => w'.cell? ⟨w.heap.size + 1, 0, none⟩ = some (.pointer (some ⟨at_ L p, 0, none⟩)) ∧ w'.cell? ⟨at_ L x.1, 0, none⟩ = some (.int .i64 y.kind) ∧ w'.cell? ⟨at_ L x.1, 1, none⟩ = some (.int .i64 y.tx) ∧ w'.cell? ⟨at_ L p, 1, none⟩ = some (.int .i64 yy.tx))) (by kernel_rfl) (by kernel_rfl) (by rintro ⟨_, _, h⟩; exact h) ?hSax (fun hHeldax => ?stax)
        case hSax => (first | (dsimp only; (exact k0)) | (exact k0))
        refine take_first 0 10 (v := ?vax_1) rfl rfl (by kernel_rfl) (by kernel_rfl) (by kernel_rfl) (fun _ _ _ h => h) (by rfl) ?yax_1 (by assumption) ?rax_1
        case yax_1 => (intro w hSw; (try dsimp only at hSw); go_simp; (try with_reducible rfl))
        simp only [Act.put, List.setIfInBounds_toArray, List.set_cons_zero, List.set_cons_succ]
        refine take_first 1 11 (v := ?vax_2) rfl rfl (by kernel_rfl) (by kernel_rfl) (by kernel_rfl) (fun _ _ _ h => h) (by rfl) ?yax_2 (by assumption) ?rax_2
        case yax_2 => (intro w hSw; (try dsimp only at hSw); go_simp; (try with_reducible rfl))
        simp only [Act.put, List.setIfInBounds_toArray, List.set_cons_zero, List.set_cons_succ]
        refine take_first 2 12 (v := ?vax_3) rfl rfl (by kernel_rfl) (by kernel_rfl) (by kernel_rfl) (fun _ _ _ h => h) (by rfl) ?yax_3 (by assumption) ?rax_3
        case yax_3 => (intro w hSw; (try dsimp only at hSw); go_simp; (try with_reducible rfl))
        simp only [Act.put, List.setIfInBounds_toArray, List.set_cons_zero, List.set_cons_succ]
        refine take_first 3 13 (v := ?vax_4) rfl rfl (by kernel_rfl) (by kernel_rfl) (by kernel_rfl) (fun _ _ _ h => h) (by rfl) ?yax_4 (by assumption) ?rax_4
        case yax_4 => (intro w hSw; (try dsimp only at hSw); go_simp; (try with_reducible rfl))
        simp only [Act.put, List.setIfInBounds_toArray, List.set_cons_zero, List.set_cons_succ]
        refine take_first 4 14 (v := ?vax_5) rfl rfl (by kernel_rfl) (by kernel_rfl) (by kernel_rfl) (fun _ _ _ h => h) (by rfl) ?yax_5 (by assumption) ?rax_5
        case yax_5 => (intro w hSw; (try dsimp only at hSw); go_simp; (try with_reducible rfl))
        simp only [Act.put, List.setIfInBounds_toArray, List.set_cons_zero, List.set_cons_succ]
        refine take_first 5 15 (v := ?vax_6) rfl rfl (by kernel_rfl) (by kernel_rfl) (by kernel_rfl) (fun _ _ _ h => h) (by rfl) ?yax_6 (by assumption) ?rax_6
        case yax_6 => (intro w hSw; (try dsimp only at hSw); go_simp; (try with_reducible rfl))
        simp only [Act.put, List.setIfInBounds_toArray, List.set_cons_zero, List.set_cons_succ]
        refine take_first 6 16 (v := ?vax_7) rfl rfl (by kernel_rfl) (by kernel_rfl) (by kernel_rfl) (fun _ _ _ h => h) (by rfl) ?yax_7 (by assumption) ?rax_7
        case yax_7 => (intro w hSw; (try dsimp only at hSw); go_simp; (try with_reducible rfl))
        simp only [Act.put, List.setIfInBounds_toArray, List.set_cons_zero, List.set_cons_succ]
        refine take_first 7 17 (v := ?vax_8) rfl rfl (by kernel_rfl) (by kernel_rfl) (by kernel_rfl) (fun _ _ _ h => h) (by rfl) ?yax_8 (by assumption) ?rax_8
        case yax_8 => (intro w hSw; (try dsimp only at hSw); go_simp; (try with_reducible rfl))
        simp only [Act.put, List.setIfInBounds_toArray, List.set_cons_zero, List.set_cons_succ]
        refine take_first 8 18 (v := ?vax_9) rfl rfl (by kernel_rfl) (by kernel_rfl) (by kernel_rfl) (fun _ _ _ h => h) (by rfl) ?yax_9 (by assumption) ?rax_9
        case yax_9 => (intro w hSw; (try dsimp only at hSw); go_simp; (try with_reducible rfl))
        simp only [Act.put, List.setIfInBounds_toArray, List.set_cons_zero, List.set_cons_succ]
        refine take_first 9 19 (v := ?vax_10) rfl rfl (by kernel_rfl) (by kernel_rfl) (by kernel_rfl) (fun _ _ _ h => h) (by rfl) ?yax_10 (by assumption) ?rax_10
        case yax_10 => (intro w hSw; (try dsimp only at hSw); go_simp; (try with_reducible rfl))
        simp only [Act.put, List.setIfInBounds_toArray, List.set_cons_zero, List.set_cons_succ]
        refine take_first 10 20 (v := ?vax_11) rfl rfl (by kernel_rfl) (by kernel_rfl) (by kernel_rfl) (fun _ _ _ h => h) (by rfl) ?yax_11 (by assumption) ?rax_11
        case yax_11 => (intro w hSw; (try dsimp only at hSw); go_simp; (try with_reducible rfl))
        simp only [Act.put, List.setIfInBounds_toArray, List.set_cons_zero, List.set_cons_succ]
        refine take_first 11 21 (v := ?vax_12) rfl rfl (by kernel_rfl) (by kernel_rfl) (by kernel_rfl) (fun _ _ _ h => h) (by rfl) ?yax_12 (by assumption) ?rax_12
        case yax_12 => (intro w hSw; (try dsimp only at hSw); go_simp; (try with_reducible rfl))
        simp only [Act.put, List.setIfInBounds_toArray, List.set_cons_zero, List.set_cons_succ]
        refine take_first 12 22 (v := ?vax_13) rfl rfl (by kernel_rfl) (by kernel_rfl) (by kernel_rfl) (fun _ _ _ h => h) (by rfl) ?yax_13 (by assumption) ?rax_13
        case yax_13 => (intro w hSw; (try dsimp only at hSw); go_simp; (try with_reducible rfl))
        simp only [Act.put, List.setIfInBounds_toArray, List.set_cons_zero, List.set_cons_succ]
        refine take_first 13 23 (v := ?vax_14) rfl rfl (by kernel_rfl) (by kernel_rfl) (by kernel_rfl) (fun _ _ _ h => h) (by rfl) ?yax_14 (by assumption) ?rax_14
        case yax_14 => (intro w hSw; (try dsimp only at hSw); go_simp; (try with_reducible rfl))
        simp only [Act.put, List.setIfInBounds_toArray, List.set_cons_zero, List.set_cons_succ]
        refine take_first 14 24 (v := ?vax_15) rfl rfl (by kernel_rfl) (by kernel_rfl) (by kernel_rfl) (fun _ _ _ h => h) (by rfl) ?yax_15 (by assumption) ?rax_15
        case yax_15 => (intro w hSw; (try dsimp only at hSw); go_simp; (try with_reducible rfl))
        simp only [Act.put, List.setIfInBounds_toArray, List.set_cons_zero, List.set_cons_succ]
        refine take_first 15 25 (v := ?vax_16) rfl rfl (by kernel_rfl) (by kernel_rfl) (by kernel_rfl) (fun _ _ _ h => h) (by rfl) ?yax_16 (by assumption) ?rax_16
        case yax_16 => (intro w hSw; (try dsimp only at hSw); go_simp; (try with_reducible rfl))
        simp only [Act.put, List.setIfInBounds_toArray, List.set_cons_zero, List.set_cons_succ]
        refine take_first 16 26 (v := ?vax_17) rfl rfl (by kernel_rfl) (by kernel_rfl) (by kernel_rfl) (fun _ _ _ h => h) (by rfl) ?yax_17 (by assumption) ?rax_17
        case yax_17 => (intro w hSw; (try dsimp only at hSw); go_simp; (try with_reducible rfl))
        simp only [Act.put, List.setIfInBounds_toArray, List.set_cons_zero, List.set_cons_succ]
        refine take_first 17 27 (v := ?vax_18) rfl rfl (by kernel_rfl) (by kernel_rfl) (by kernel_rfl) (fun _ _ _ h => h) (by rfl) ?yax_18 (by assumption) ?rax_18
        case yax_18 => (intro w hSw; (try dsimp only at hSw); go_simp; (try with_reducible rfl))
        simp only [Act.put, List.setIfInBounds_toArray, List.set_cons_zero, List.set_cons_succ]
        refine take_first 18 28 (v := ?vax_19) rfl rfl (by kernel_rfl) (by kernel_rfl) (by kernel_rfl) (fun _ _ _ h => h) (by rfl) ?yax_19 (by assumption) ?rax_19
        case yax_19 => (intro w hSw; (try dsimp only at hSw); go_simp; (try with_reducible rfl))
        simp only [Act.put, List.setIfInBounds_toArray, List.set_cons_zero, List.set_cons_succ]
        refine wpAnyH_done (by kernel_rfl) ?eax _
        gi_wp2
        exact ⟨(KeepsOthers.drew _).trans (KeepsOthers.setCell _ _ _), rfl, pre, x, A2, c2, rfl, HP.out, HH.out, by rw [HY.out]; exact HR2.out.below (((Below.refl _ _).drew).setCell (by show B ≤ w.heap.size + 1 + 1; omega) _), by rw [HY.out]; exact (HK.out.below (by omega) hlt hBw (Below.refl _ _).drew).put hlt hBw _⟩
      · have e2 : (y.kind == 1) = false := by simp [h2]
        have HH : Hid (rdyB yy.tx (noteAt ns x) = false) := Lib.hid (by rw [HY.out]; exact rdyB_no (.inl h2))
        clear h1 h2
        gi_wp2
        refine region_h_in HFw.out (S := (fun w' => w'.cell? ⟨w.heap.size + 1, 0, none⟩ = some (.pointer (some ⟨at_ L p, 0, none⟩)) ∧ w'.cell? ⟨at_ L x.1, 0, none⟩ = some (.int .i64 y.kind) ∧ w'.cell? ⟨at_ L x.1, 1, none⟩ = some (.int .i64 y.tx) ∧ w'.cell? ⟨at_ L p, 1, none⟩ = some (.int .i64 yy.tx))) (by kernel_rfl) (by kernel_rfl) (by rintro ⟨_, _, h⟩; exact h) ?hSbx (fun hHeldbx => ?stbx)
        case hSbx => (first | (dsimp only; (exact k0)) | (exact k0))
        refine take_first 0 10 (v := ?vbx_1) rfl rfl (by kernel_rfl) (by kernel_rfl) (by kernel_rfl) (fun _ _ _ h => h) (by rfl) ?ybx_1 (by assumption) ?rbx_1
        case ybx_1 => (intro w hSw; (try dsimp only at hSw); go_simp; (try with_reducible rfl))
        simp only [Act.put, List.setIfInBounds_toArray, List.set_cons_zero, List.set_cons_succ]
        refine take_first 1 11 (v := ?vbx_2) rfl rfl (by kernel_rfl) (by kernel_rfl) (by kernel_rfl) (fun _ _ _ h => h) (by rfl) ?ybx_2 (by assumption) ?rbx_2
        case ybx_2 => (intro w hSw; (try dsimp only at hSw); go_simp; (try with_reducible rfl))
        simp only [Act.put, List.setIfInBounds_toArray, List.set_cons_zero, List.set_cons_succ]
        refine take_first 2 12 (v := ?vbx_3) rfl rfl (by kernel_rfl) (by kernel_rfl) (by kernel_rfl) (fun _ _ _ h => h) (by rfl) ?ybx_3 (by assumption) ?rbx_3
        case ybx_3 => (intro w hSw; (try dsimp only at hSw); go_simp; (try with_reducible rfl))
        simp only [Act.put, List.setIfInBounds_toArray, List.set_cons_zero, List.set_cons_succ]
        refine take_first 3 13 (v := ?vbx_4) rfl rfl (by kernel_rfl) (by kernel_rfl) (by kernel_rfl) (fun _ _ _ h => h) (by rfl) ?ybx_4 (by assumption) ?rbx_4
        case ybx_4 => (intro w hSw; (try dsimp only at hSw); go_simp; (try with_reducible rfl))
        simp only [Act.put, List.setIfInBounds_toArray, List.set_cons_zero, List.set_cons_succ]
        refine take_first 4 14 (v := ?vbx_5) rfl rfl (by kernel_rfl) (by kernel_rfl) (by kernel_rfl) (fun _ _ _ h => h) (by rfl) ?ybx_5 (by assumption) ?rbx_5
        case ybx_5 => (intro w hSw; (try dsimp only at hSw); go_simp; (try with_reducible rfl))
        simp only [Act.put, List.setIfInBounds_toArray, List.set_cons_zero, List.set_cons_succ]
        refine take_first 5 15 (v := ?vbx_6) rfl rfl (by kernel_rfl) (by kernel_rfl) (by kernel_rfl) (fun _ _ _ h => h) (by rfl) ?ybx_6 (by assumption) ?rbx_6
        case ybx_6 => (intro w hSw; (try dsimp only at hSw); go_simp; (try with_reducible rfl))
        simp only [Act.put, List.setIfInBounds_toArray, List.set_cons_zero, List.set_cons_succ]
        refine take_first 6 16 (v := ?vbx_7) rfl rfl (by kernel_rfl) (by kernel_rfl) (by kernel_rfl) (fun _ _ _ h => h) (by rfl) ?ybx_7 (by assumption) ?rbx_7
        case ybx_7 => (intro w hSw; (try dsimp only at hSw); go_simp; (try with_reducible rfl))
        simp only [Act.put, List.setIfInBounds_toArray, List.set_cons_zero, List.set_cons_succ]
        refine take_first 7 17 (v := ?vbx_8) rfl rfl (by kernel_rfl) (by kernel_rfl) (by kernel_rfl) (fun _ _ _ h => h) (by rfl) ?ybx_8 (by assumption) ?rbx_8
        case ybx_8 => (intro w hSw; (try dsimp only at hSw); go_simp; (try with_reducible rfl))
        simp only [Act.put, List.setIfInBounds_toArray, List.set_cons_zero, List.set_cons_succ]
        refine take_first 8 18 (v := ?vbx_9) rfl rfl (by kernel_rfl) (by kernel_rfl) (by kernel_rfl) (fun _ _ _ h => h) (by rfl) ?ybx_9 (by assumption) ?rbx_9
        case ybx_9 => (intro w hSw; (try dsimp only at hSw); go_simp; (try with_reducible rfl))
        simp only [Act.put, List.setIfInBounds_toArray, List.set_cons_zero, List.set_cons_succ]
        refine take_first 9 19 (v := ?vbx_10) rfl rfl (by kernel_rfl) (by kernel_rfl) (by kernel_rfl) (fun _ _ _ h => h) (by rfl) ?ybx_10 (by assumption) ?rbx_10
        case ybx_10 => (intro w hSw; (try dsimp only at hSw); go_simp; (try with_reducible rfl))
        simp only [Act.put, List.setIfInBounds_toArray, List.set_cons_zero, List.set_cons_succ]
        refine take_first 10 20 (v := ?vbx_11) rfl rfl (by kernel_rfl) (by kernel_rfl) (by kernel_rfl) (fun _ _ _ h => h) (by rfl) ?ybx_11 (by assumption) ?rbx_11
        case ybx_11 => (intro w hSw; (try dsimp only at hSw); go_simp; (try with_reducible rfl))
        simp only [Act.put, List.setIfInBounds_toArray, List.set_cons_zero, List.set_cons_succ]
        refine take_first 11 21 (v := ?vbx_12) rfl rfl (by kernel_rfl) (by kernel_rfl) (by kernel_rfl) (fun _ _ _ h => h) (by rfl) ?ybx_12 (by assumption) ?rbx_12
        case ybx_12 => (intro w hSw; (try dsimp only at hSw); go_simp; (try with_reducible rfl))
        simp only [Act.put, List.setIfInBounds_toArray, List.set_cons_zero, List.set_cons_succ]
        refine take_first 12 22 (v := ?vbx_13) rfl rfl (by kernel_rfl) (by kernel_rfl) (by kernel_rfl) (fun _ _ _ h => h) (by rfl) ?ybx_13 (by assumption) ?rbx_13
        case ybx_13 => (intro w hSw; (try dsimp only at hSw); go_simp; (try with_reducible rfl))
        simp only [Act.put, List.setIfInBounds_toArray, List.set_cons_zero, List.set_cons_succ]
        refine take_first 13 23 (v := ?vbx_14) rfl rfl (by kernel_rfl) (by kernel_rfl) (by kernel_rfl) (fun _ _ _ h => h) (by rfl) ?ybx_14 (by assumption) ?rbx_14
        case ybx_14 => (intro w hSw; (try dsimp only at hSw); go_simp; (try with_reducible rfl))
        simp only [Act.put, List.setIfInBounds_toArray, List.set_cons_zero, List.set_cons_succ]
        refine take_first 14 24 (v := ?vbx_15) rfl rfl (by kernel_rfl) (by kernel_rfl) (by kernel_rfl) (fun _ _ _ h => h) (by rfl) ?ybx_15 (by assumption) ?rbx_15
        case ybx_15 => (intro w hSw; (try dsimp only at hSw); go_simp; (try with_reducible rfl))
        simp only [Act.put, List.setIfInBounds_toArray, List.set_cons_zero, List.set_cons_succ]
        refine take_first 15 25 (v := ?vbx_16) rfl rfl (by kernel_rfl) (by kernel_rfl) (by kernel_rfl) (fun _ _ _ h => h) (by rfl) ?ybx_16 (by assumption) ?rbx_16
        case ybx_16 => (intro w hSw; (try dsimp only at hSw); go_simp; (try with_reducible rfl))
        simp only [Act.put, List.setIfInBounds_toArray, List.set_cons_zero, List.set_cons_succ]
        refine take_first 16 26 (v := ?vbx_17) rfl rfl (by kernel_rfl) (by kernel_rfl) (by kernel_rfl) (fun _ _ _ h => h) (by rfl) ?ybx_17 (by assumption) ?rbx_17
        case ybx_17 => (intro w hSw; (try dsimp only at hSw); go_simp; (try with_reducible rfl))
        simp only [Act.put, List.setIfInBounds_toArray, List.set_cons_zero, List.set_cons_succ]
        refine take_first 17 27 (v := ?vbx_18) rfl rfl (by kernel_rfl) (by kernel_rfl) (by kernel_rfl) (fun _ _ _ h => h) (by rfl) ?ybx_18 (by assumption) ?rbx_18
        case ybx_18 => (intro w hSw; (try dsimp only at hSw); go_simp; (try with_reducible rfl))
        simp only [Act.put, List.setIfInBounds_toArray, List.set_cons_zero, List.set_cons_succ]
        refine take_first 18 28 (v := ?vbx_19) rfl rfl (by kernel_rfl) (by kernel_rfl) (by kernel_rfl) (fun _ _ _ h => h) (by rfl) ?ybx_19 (by assumption) ?rbx_19
        case ybx_19 => (intro w hSw; (try dsimp only at hSw); go_simp; (try with_reducible rfl))
        simp only [Act.put, List.setIfInBounds_toArray, List.set_cons_zero, List.set_cons_succ]
        refine wpAnyH_done (by kernel_rfl) ?ebx _
        gi_wp2
        exact ⟨KeepsOthers.drew _, (Below.refl _ _).drew, snocAll HP.out HH.out, HK.out.below (by omega) hlt hBw (Below.refl _ _).drew⟩
    · have e1 : (y.tx == yy.tx) = false := by simp [h1]
      have HH : Hid (rdyB yy.tx (noteAt ns x) = false) := Lib.hid (by rw [HY.out]; exact rdyB_no (.inr h1))
      clear h1
      gi_wp2
      refine region_h_in HFw.out (S := (fun w' => w'.cell? ⟨w.heap.size + 1, 0, none⟩ = some (.pointer (some ⟨at_ L p, 0, none⟩)) ∧ w'.cell? ⟨at_ L x.1, 0, none⟩ = some (.int .i64 y.kind) ∧ w'.cell? ⟨at_ L x.1, 1, none⟩ = some (.int .i64 y.tx) ∧ w'.cell? ⟨at_ L p, 1, none⟩ = some (.int .i64 yy.tx))) (by kernel_rfl) (by kernel_rfl) (by rintro ⟨_, _, h⟩; exact h) ?hScx (fun hHeldcx => ?stcx)
      case hScx => (first | (dsimp only; (exact k0)) | (exact k0))
      refine take_first 0 10 (v := ?vcx_1) rfl rfl (by kernel_rfl) (by kernel_rfl) (by kernel_rfl) (fun _ _ _ h => h) (by rfl) ?ycx_1 (by assumption) ?rcx_1
      case ycx_1 => (intro w hSw; (try dsimp only at hSw); go_simp; (try with_reducible rfl))
      simp only [Act.put, List.setIfInBounds_toArray, List.set_cons_zero, List.set_cons_succ]
      refine take_first 1 11 (v := ?vcx_2) rfl rfl (by kernel_rfl) (by kernel_rfl) (by kernel_rfl) (fun _ _ _ h => h) (by rfl) ?ycx_2 (by assumption) ?rcx_2
      case ycx_2 => (intro w hSw; (try dsimp only at hSw); go_simp; (try with_reducible rfl))
      simp only [Act.put, List.setIfInBounds_toArray, List.set_cons_zero, List.set_cons_succ]
      refine take_first 2 12 (v := ?vcx_3) rfl rfl (by kernel_rfl) (by kernel_rfl) (by kernel_rfl) (fun _ _ _ h => h) (by rfl) ?ycx_3 (by assumption) ?rcx_3
      case ycx_3 => (intro w hSw; (try dsimp only at hSw); go_simp; (try with_reducible rfl))
      simp only [Act.put, List.setIfInBounds_toArray, List.set_cons_zero, List.set_cons_succ]
      refine take_first 3 13 (v := ?vcx_4) rfl rfl (by kernel_rfl) (by kernel_rfl) (by kernel_rfl) (fun _ _ _ h => h) (by rfl) ?ycx_4 (by assumption) ?rcx_4
      case ycx_4 => (intro w hSw; (try dsimp only at hSw); go_simp; (try with_reducible rfl))
      simp only [Act.put, List.setIfInBounds_toArray, List.set_cons_zero, List.set_cons_succ]
      refine take_first 4 14 (v := ?vcx_5) rfl rfl (by kernel_rfl) (by kernel_rfl) (by kernel_rfl) (fun _ _ _ h => h) (by rfl) ?ycx_5 (by assumption) ?rcx_5
      case ycx_5 => (intro w hSw; (try dsimp only at hSw); go_simp; (try with_reducible rfl))
      simp only [Act.put, List.setIfInBounds_toArray, List.set_cons_zero, List.set_cons_succ]
      refine take_first 5 15 (v := ?vcx_6) rfl rfl (by kernel_rfl) (by kernel_rfl) (by kernel_rfl) (fun _ _ _ h => h) (by rfl) ?ycx_6 (by assumption) ?rcx_6
      case ycx_6 => (intro w hSw; (try dsimp only at hSw); go_simp; (try with_reducible rfl))
      simp only [Act.put, List.setIfInBounds_toArray, List.set_cons_zero, List.set_cons_succ]
      refine take_first 6 16 (v := ?vcx_7) rfl rfl (by kernel_rfl) (by kernel_rfl) (by kernel_rfl) (fun _ _ _ h => h) (by rfl) ?ycx_7 (by assumption) ?rcx_7
      case ycx_7 => (intro w hSw; (try dsimp only at hSw); go_simp; (try with_reducible rfl))
      simp only [Act.put, List.setIfInBounds_toArray, List.set_cons_zero, List.set_cons_succ]
      refine take_first 7 17 (v := ?vcx_8) rfl rfl (by kernel_rfl) (by kernel_rfl) (by kernel_rfl) (fun _ _ _ h => h) (by rfl) ?ycx_8 (by assumption) ?rcx_8
      case ycx_8 => (intro w hSw; (try dsimp only at hSw); go_simp; (try with_reducible rfl))
      simp only [Act.put, List.setIfInBounds_toArray, List.set_cons_zero, List.set_cons_succ]
      refine take_first 8 18 (v := ?vcx_9) rfl rfl (by kernel_rfl) (by kernel_rfl) (by kernel_rfl) (fun _ _ _ h => h) (by rfl) ?ycx_9 (by assumption) ?rcx_9
      case ycx_9 => (intro w hSw; (try dsimp only at hSw); go_simp; (try with_reducible rfl))
      simp only [Act.put, List.setIfInBounds_toArray, List.set_cons_zero, List.set_cons_succ]
      refine take_first 9 19 (v := ?vcx_10) rfl rfl (by kernel_rfl) (by kernel_rfl) (by kernel_rfl) (fun _ _ _ h => h) (by rfl) ?ycx_10 (by assumption) ?rcx_10
      case ycx_10 => (intro w hSw; (try dsimp only at hSw); go_simp; (try with_reducible rfl))
      simp only [Act.put, List.setIfInBounds_toArray, List.set_cons_zero, List.set_cons_succ]
      refine take_first 10 20 (v := ?vcx_11) rfl rfl (by kernel_rfl) (by kernel_rfl) (by kernel_rfl) (fun _ _ _ h => h) (by rfl) ?ycx_11 (by assumption) ?rcx_11
      case ycx_11 => (intro w hSw; (try dsimp only at hSw); go_simp; (try with_reducible rfl))
      simp only [Act.put, List.setIfInBounds_toArray, List.set_cons_zero, List.set_cons_succ]
      refine take_first 11 21 (v := ?vcx_12) rfl rfl (by kernel_rfl) (by kernel_rfl) (by kernel_rfl) (fun _ _ _ h => h) (by rfl) ?ycx_12 (by assumption) ?rcx_12
      case ycx_12 => (intro w hSw; (try dsimp only at hSw); go_simp; (try with_reducible rfl))
      simp only [Act.put, List.setIfInBounds_toArray, List.set_cons_zero, List.set_cons_succ]
      refine pass_over 12 22 rfl rfl (by kernel_rfl) (by kernel_rfl) (by kernel_rfl) (fun _ _ _ h => h) (by rfl) (by assumption) ?rcx_13
      simp only [Act.put, List.setIfInBounds_toArray, List.set_cons_zero, List.set_cons_succ]
      refine pass_over 13 23 rfl rfl (by kernel_rfl) (by kernel_rfl) (by kernel_rfl) (fun _ _ _ h => h) (by rfl) (by assumption) ?rcx_14
      simp only [Act.put, List.setIfInBounds_toArray, List.set_cons_zero, List.set_cons_succ]
      refine pass_over 14 24 rfl rfl (by kernel_rfl) (by kernel_rfl) (by kernel_rfl) (fun _ _ _ h => h) (by rfl) (by assumption) ?rcx_15
      simp only [Act.put, List.setIfInBounds_toArray, List.set_cons_zero, List.set_cons_succ]
      refine pass_over 15 25 rfl rfl (by kernel_rfl) (by kernel_rfl) (by kernel_rfl) (fun _ _ _ h => h) (by rfl) (by assumption) ?rcx_16
      simp only [Act.put, List.setIfInBounds_toArray, List.set_cons_zero, List.set_cons_succ]
      refine pass_over 16 26 rfl rfl (by kernel_rfl) (by kernel_rfl) (by kernel_rfl) (fun _ _ _ h => h) (by rfl) (by assumption) ?rcx_17
      simp only [Act.put, List.setIfInBounds_toArray, List.set_cons_zero, List.set_cons_succ]
      refine pass_over 17 27 rfl rfl (by kernel_rfl) (by kernel_rfl) (by kernel_rfl) (fun _ _ _ h => h) (by rfl) (by assumption) ?rcx_18
      simp only [Act.put, List.setIfInBounds_toArray, List.set_cons_zero, List.set_cons_succ]
      refine take_first 18 28 (v := ?vcx_19) rfl rfl (by kernel_rfl) (by kernel_rfl) (by kernel_rfl) (fun _ _ _ h => h) (by rfl) ?ycx_19 (by assumption) ?rcx_19
      case ycx_19 => (intro w hSw; (try dsimp only at hSw); go_simp; (try with_reducible rfl))
      simp only [Act.put, List.setIfInBounds_toArray, List.set_cons_zero, List.set_cons_succ]
      refine wpAnyH_done (by kernel_rfl) ?ecx _
      gi_wp2
      exact ⟨KeepsOthers.drew _, (Below.refl _ _).drew, snocAll HP.out HH.out, HK.out.below (by omega) hlt hBw (Below.refl _ _).drew⟩
  case done =>
    rintro D ys W hD rfl ⟨hpre, hK⟩ hDf
    have r0 := hK.res.of 0 _ rfl
    have rf := hK.res.2.1 0
    have HP := Lib.hid (com_none hpre)
    have HK := Lib.hid hK
    have HD := Lib.hid hDf
    clear hpre hK hDf
    gi_wp2
    have hD' := (KeepsOthers.setCell W ⟨w.heap.size + 1 + 1, 0, none⟩ (.slice none 0 0)).same D _ HD.out rfl
    refine ⟨by simp, .inl ⟨_, _, rfl, run_takeDeferred hD', ?_⟩⟩
    have hc5 := cell_kept ((HK.out.put hlt hBw (.slice none 0 0)).res.of 0 _ rfl) (grownBy_putObj' _ D (.deferred none)) (fun r e => by cases e; exact ⟨_, hD', rfl⟩)
    refine ⟨.slice none 0 0, ?_, _, rfl, by rw [HP.out]; exact Sh.Row.nil _ _, (HK.out.put hlt hBw (.slice none 0 0)).bel.trans (belowK_b (w := w) (Nat.le_refl _) _ D _ _ (by omega) hD' rfl rfl)⟩
    simp [results, Try.f82, go_sem, hc5]
  case stop =>
    rintro D c pre W hD hpre ⟨rfl, p0, x, A, c, rfl, hp, hx, hr, hK⟩ hDf
    have HP := Lib.hid (com_at hpre hp hx)
    have HK := Lib.hid hK
    have HD := Lib.hid hDf
    have HR := Lib.hid hr
    clear hpre hp hx hK hDf hr
    gi_wp2
    refine ⟨by simp, .inl ⟨_, _, rfl, run_takeDeferred HD.out, ?_⟩⟩
    have hc5 := cell_kept (HK.out.res.of 0 _ rfl) (grownBy_putObj' _ D (.deferred none)) (fun r e => by cases e; exact ⟨_, HD.out, rfl⟩)
    have hbl := belowK_b (w := w) (Nat.le_refl _) W D _ (.deferred none) (by omega) HD.out rfl rfl
    refine ⟨.slice A (noteAt ns x).writes.length c, ?_, _, rfl, by rw [HP.out]; exact HR.out.below (hbl.mono (by omega)), HK.out.bel.trans hbl⟩
    simp [results, Try.f82, go_sem, hc5]

end Go.Proofs.Ytkamlibfcakblaa

/- The notes of all spots in order, folded. -/
namespace Go.Proofs.Ytkamlibfcakblaa

/-- What a spot's note adds to a store. -/
def spotF (ns : List Note) (s : List Item) (x : Spot ns.length) : List Item := if (noteAt ns x).kind = 2 then stoDo s (comW (ns.take (x.1 - 1)) (noteAt ns x).tx) else s
def foldS (ns : List Note) (pre : List (Spot ns.length)) : List Item := pre.foldl (spotF ns) []
theorem foldS_nil (ns : List Note) : foldS ns [] = [] := rfl
theorem foldS_snoc (ns : List Note) (pre : List (Spot ns.length)) (x : Spot ns.length) : foldS ns (pre ++ [x]) = spotF ns (foldS ns pre) x := by unfold foldS; rw [List.foldl_append]; rfl
theorem spotF_yes {ns : List Note} {s : List Item} {x : Spot ns.length} {y : Note} (hy : noteAt ns x = y) (hk : y.kind = 2) : spotF ns s x = stoDo s (comW (ns.take (x.1 - 1)) y.tx) := by unfold spotF; rw [hy, if_pos hk]
theorem spotF_no {ns : List Note} {s : List Item} {x : Spot ns.length} {y : Note} (hy : noteAt ns x = y) (hk : y.kind ≠ 2) : spotF ns s x = s := by unfold spotF; rw [hy, if_neg hk]
theorem foldS_all (ns : List Note) : foldS ns (upto ns.length ns.length (Nat.le_refl _)) = foldN ns := by
  have h : ∀ m (hm : m ≤ ns.length), (upto ns.length m hm).foldl (spotF ns) (foldN (ns.take (ns.length - m))) = foldN ns := by
    intro m
    induction m with
    | zero => intro hm; simp [upto]
    | succ m ih =>
      intro hm
      have hlt : ns.length - (m + 1) < ns.length := by omega
      have hg := List.getElem?_eq_getElem hlt
      rw [upto_cons (i := ns.length - m) hm (by omega) (by omega) (by omega), List.foldl_cons]
      have hn : noteAt ns ⟨ns.length - m, by omega, by omega⟩ = ns[ns.length - (m + 1)] := noteAt_get hg (by show ns.length - m = ns.length - (m + 1) + 1; omega)
      have hs : spotF ns (foldN (ns.take (ns.length - (m + 1)))) ⟨ns.length - m, by omega, by omega⟩ = foldN (ns.take (ns.length - m)) := by
        have e2 : foldN (ns.take (ns.length - m)) = foldN (ns.take (ns.length - (m + 1) + 1)) := by congr 2; omega
        rw [e2, foldN_take hg]
        by_cases hk : (ns[ns.length - (m + 1)]).kind = 2
        · rw [if_pos hk, spotF_yes hn hk]
          rfl
        · rw [if_neg hk, spotF_no hn hk]
      rw [hs]
      exact ih (by omega)
  have := h ns.length (Nat.le_refl _)
  simpa [foldS, foldN_nil] using this
theorem foldS_fine (ns : List Note) : ∀ (pre : List (Spot ns.length)), (foldS ns pre).length ≤ 40 ∧ Fine (foldS ns pre) := by
  have h : ∀ (pre : List (Spot ns.length)) (s : List Item), (s.length ≤ 40 ∧ Fine s) → ((pre.foldl (spotF ns) s).length ≤ 40 ∧ Fine (pre.foldl (spotF ns) s)) := by
    intro pre
    induction pre with
    | nil => intro s h; exact h
    | cons x pre ih =>
      intro s h
      refine ih _ ?_
      unfold spotF; split
      · exact stoDo_fine _ _
      · exact h
  exact fun pre => h pre [] ⟨by simp, fun _ h => by cases h⟩

end Go.Proofs.Ytkamlibfcakblaa
