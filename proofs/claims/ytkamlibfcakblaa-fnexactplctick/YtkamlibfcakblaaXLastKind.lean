/- Texts that follow each other, merged: LastKind, Shal. -/
import Derived.Test.YtkamlibfcakblaaXListOf
import Derived.Test.YtkamlibfcakblaaXShOwn
import Derived.OwnWalk

/- What lastKind answers: the kind of the last note of a transaction that is not an end. -/
namespace Go.Proofs.Ytkamlibfcakblaa
open Go.RowKit Go.Shelf

attribute [local go_sem] Oper.semAt_some

/-- A note of tx that says what became of it. -/
def hitK (tx : Int) (n : Note) : Bool := decide (n.tx = tx) && decide (n.kind ≠ 4)
def stepK (tx : Int) (how : Int) (n : Note) : Int := if hitK tx n = true then n.kind else how
/-- What is noted of tx last. -/
def lastK (ns : List Note) (tx : Int) : Int := ns.foldl (stepK tx) 0
theorem foldK_none {tx : Int} : ∀ {ns : List Note} {h : Int}, (∀ (j : Nat) (x : Note), ns[j]? = some x → hitK tx x = false) → ns.foldl (stepK tx) h = h
  | [], _, _ => rfl
  | n :: ns, h, hn => by
    have h0 := hn 0 n rfl
    rw [List.foldl_cons, foldK_none (ns := ns) fun j x hx => hn (j + 1) x (by simpa using hx)]
    simp [stepK, h0]
theorem lastK_none {ns : List Note} {tx : Int} (h : ∀ (j : Nat) (x : Note), ns[j]? = some x → hitK tx x = false) : lastK ns tx = 0 := foldK_none h
theorem lastK_at {ns : List Note} {tx : Int} {i : Nat} {x : Note} (hx : ns[i]? = some x) (hh : hitK tx x = true) (hr : ∀ (j : Nat) (y : Note), i < j → ns[j]? = some y → hitK tx y = false) : lastK ns tx = x.kind := by
  unfold lastK
  rw [← List.take_append_drop (i + 1) ns, List.foldl_append, take_snoc hx, List.foldl_append, foldK_none (ns := ns.drop (i + 1)) fun j y hy => hr (i + 1 + j) y (by omega) (by rw [List.getElem?_drop] at hy; exact hy)]
  simp [stepK, hh]
theorem mem_down {n : Nat} : ∀ {s : Nat} {h : s ≤ n} {j : Nat}, 1 ≤ j → j ≤ s → ∃ y ∈ down n s h, y.1 = j
  | 0, _, j, h1, h2 => by omega
  | s + 1, h, j, h1, h2 => by
    by_cases e : j = s + 1
    · exact ⟨⟨s + 1, by omega, h⟩, by simp [down], e.symm⟩
    · obtain ⟨y, hy, e'⟩ := mem_down (h := show s ≤ n by omega) h1 (show j ≤ s by omega)
      exact ⟨y, by simp [down, hy], e'⟩
theorem pre_down {n : Nat} : ∀ {s : Nat} {h : s ≤ n} {pre : List (Spot n)} {x : Spot n}, pre ++ [x] <+: down n s h → ∀ j, x.1 < j → j ≤ s → ∃ y ∈ pre, y.1 = j
  | 0, _, pre, x, hp, j, h1, h2 => by omega
  | s + 1, h, [], x, hp, j, h1, h2 => by
    simp [down] at hp
    have : x.1 = s + 1 := by rw [hp]
    omega
  | s + 1, h, p :: pre, x, hp, j, h1, h2 => by
    simp only [down, List.cons_append, List.cons_prefix_cons] at hp
    by_cases e : j = s + 1
    · exact ⟨p, by simp, by rw [hp.1, e]⟩
    · obtain ⟨y, hy, e'⟩ := pre_down hp.2 j h1 (by omega)
      exact ⟨y, by simp [hy], e'⟩

/-- The note at a spot. -/
def noteAt (ns : List Note) (x : Spot ns.length) : Note := ns[x.1 - 1]'(by have := x.2; omega)
theorem noteAt_get {ns : List Note} {x : Spot ns.length} {j : Nat} {y : Note} (hj : ns[j]? = some y) (e : x.1 = j + 1) : noteAt ns x = y := by
  obtain ⟨h, rfl⟩ := List.getElem?_eq_some_iff.1 hj
  unfold noteAt
  congr 1
  omega
theorem last_none {ns : List Note} {tx : Int} (h : ∀ y ∈ down ns.length ns.length (Nat.le_refl _), hitK tx (noteAt ns y) = false) : lastK ns tx = 0 := lastK_none fun j x hx => by
  have hj := (List.getElem?_eq_some_iff.1 hx).1
  obtain ⟨y, hy, e⟩ := mem_down (h := Nat.le_refl ns.length) (show 1 ≤ j + 1 by omega) (show j + 1 ≤ ns.length by omega)
  rw [← noteAt_get hx e]; exact h y hy
theorem last_at {ns : List Note} {tx : Int} {pre : List (Spot ns.length)} {x : Spot ns.length} (hp : pre ++ [x] <+: down ns.length ns.length (Nat.le_refl _)) (hpre : ∀ y ∈ pre, hitK tx (noteAt ns y) = false) (hx : hitK tx (noteAt ns x) = true) : lastK ns tx = (noteAt ns x).kind := by
  have h2 := x.2
  have hg : ns[x.1 - 1]? = some (noteAt ns x) := List.getElem?_eq_getElem (by omega)
  refine lastK_at hg hx fun j y hj hy => ?_
  have hjl := (List.getElem?_eq_some_iff.1 hy).1
  obtain ⟨z, hz, e⟩ := pre_down hp (j + 1) (by omega) (by omega)
  rw [← noteAt_get hy e]; exact hpre z hz

set_option maxRecDepth 100000 in
theorem before_in (F : Fence) (d : Nat) (hg : F.fn 105) (hro : F.round = none) (m a : Nat) (w : World) :
    CallsIn F d Try.prog 105 #[.agg #[ptr m], ptr a] w fun e w' => e = .returned (.func (.func 133) #[] #[ptr (w.heap.size + 1), ptr w.heap.size]) ∧ w' = (w.alloc (.cells #[ptr m] 79)).alloc (.cells #[ptr a] 77) := by
  unfold ptr
  refine callsIn_of_wp Try.func105 rfl hg ?_ hro
  simp only [Try.ntmps105, List.size_toArray, List.length_cons, List.length_nil, Nat.reduceAdd, Nat.reduceSub, Array.replicate_succ, Array.replicate_zero, List.push_toArray, List.append_toArray, List.nil_append, List.cons_append]
  gi_wp2
  go_ret
  exact ⟨rfl, rfl⟩

theorem ownFrom_of {β : Type} {I : β → World → Prop} (n : Nat) (hI : ∀ s W, I s W → n ≤ W.heap.size) (hB : ∀ s W W', I s W → Below n W W' → I s W') : OwnFrom n I := fun s W W' _ hs hg hr => hB s W W' hs ((Below.refl _ W).grown hg (hI s W hs) (fun k e => (hr k e).1))

/-- What holds while lastKind looks: who is sought, the result, the marker, the ring. -/
structure LkW (w : World) (n0 : Nat) (B : Nat) (L : List Nat) (ns : List Note) (tx r : Int) (W : World) : Prop where
  tx : Held W (w.heap.size + 1) [.int .i64 tx]
  res : Held W (w.heap.size + 1 + 1) [.int .i64 r]
  mrk : Held W (w.heap.size + 1 + 1 + 1) [.pointer (some ⟨at_ L 0, 0, none⟩)]
  ring : Ring W B L ns
  bel : Below w.heap.size w W
  size : n0 ≤ W.heap.size
theorem LkW.below {w : World} {n0 B : Nat} {L : List Nat} {ns : List Note} {tx r : Int} {W W' : World} (h : LkW w n0 B L ns tx r W) (hn : w.heap.size + 1 + 1 + 1 < n0) (hR : ∀ i, i < L.length → at_ L i < w.heap.size) (hB : B ≤ w.heap.size) (hb : Below n0 W W') : LkW w n0 B L ns tx r W' :=
  ⟨h.tx.below hb (by omega), h.res.below hb (by omega), h.mrk.below hb (by omega), h.ring.below hb (by omega) (fun i hi => by have := hR i hi; omega), h.bel.trans (hb.mono (by omega)), Nat.le_trans h.size hb.size⟩

theorem LkW.put {w : World} {n0 B : Nat} {L : List Nat} {ns : List Note} {tx r : Int} {W : World} (h : LkW w n0 B L ns tx r W) (hR : ∀ i, i < L.length → at_ L i < w.heap.size) (hB : B ≤ w.heap.size) (k : Int) : LkW w n0 B L ns tx k (W.setCell ⟨w.heap.size + 1 + 1, 0, none⟩ (.int .i64 k)) :=
  ⟨h.tx.farS (by show _ ≠ w.heap.size + 1 + 1; omega) _, h.res.set_ (i := 0) _, h.mrk.farS (by show _ ≠ w.heap.size + 1 + 1; omega) _, h.ring.below (n := w.heap.size) ((Below.refl _ _).setCell (by show w.heap.size ≤ w.heap.size + 1 + 1; omega) _) hB hR, h.bel.setCell (by show w.heap.size ≤ w.heap.size + 1 + 1; omega) _, by simpa [World.setCell] using h.size⟩
theorem snocAll {α : Type} {P : α → Prop} {l : List α} {x : α} (h : ∀ y ∈ l, P y) (hx : P x) : ∀ y ∈ l ++ [x], P y := by
  intro y hy
  rcases List.mem_append.1 hy with h' | h'
  · exact h y h'
  · rw [List.mem_singleton.1 h']; exact hx

set_option maxRecDepth 100000 in
set_option maxHeartbeats 2000000 in
theorem lastKind_in (F : Fence) (d : Nat) (hg : F.fn 62) (hb : F.fn 105) (hb1 : F.fn 133) (hro : F.round = none) (hd : 3 ≤ d) (w : World) (B : Nat) (L : List Nat) (ns : List Note) (tx : Int) (hR : Ring w B L ns) :
    CallsIn F d Try.prog 62 #[.agg #[ptr (at_ L 0)], .int .i64 tx] w fun e W' => e = .returned (.int .i64 (lastK ns tx)) ∧ Below w.heap.size w W' := by
  have h1 : 1 ≤ d := by omega
  have HBi := Lib.hid (before_in F (d - 1) hb hro (at_ L 0) (at_ L 0))
  have hB5 : Below w.heap.size w (((((w.alloc (.cells #[.pointer (some ⟨at_ L 0, 0, none⟩)] 79)).alloc (.cells #[.int .i64 tx] 3)).alloc (.cells #[.int .i64 0] 3)).alloc (.cells #[.pointer (some ⟨at_ L 0, 0, none⟩)] 79)).alloc (.cells #[.pointer (some ⟨at_ L 0, 0, none⟩)] 77)) :=
    ((belowThree _ _ _ _).alloc (by simp; omega) _).alloc (by simp; omega) _
  have HK : Hid (LkW w (w.heap.size + 1 + 1 + 1 + 1 + 1) B L ns tx 0 (((((w.alloc (.cells #[.pointer (some ⟨at_ L 0, 0, none⟩)] 79)).alloc (.cells #[.int .i64 tx] 3)).alloc (.cells #[.int .i64 0] 3)).alloc (.cells #[.pointer (some ⟨at_ L 0, 0, none⟩)] 79)).alloc (.cells #[.pointer (some ⟨at_ L 0, 0, none⟩)] 77)) ∧ Held (((((w.alloc (.cells #[.pointer (some ⟨at_ L 0, 0, none⟩)] 79)).alloc (.cells #[.int .i64 tx] 3)).alloc (.cells #[.int .i64 0] 3)).alloc (.cells #[.pointer (some ⟨at_ L 0, 0, none⟩)] 79)).alloc (.cells #[.pointer (some ⟨at_ L 0, 0, none⟩)] 77)) (w.heap.size + 1 + 1 + 1 + 1) [.pointer (some ⟨at_ L 0, 0, none⟩)]) := Lib.hid
    ⟨⟨((((Held.new (w.alloc (.cells #[.pointer (some ⟨at_ L 0, 0, none⟩)] 79)) #[.int .i64 tx] 3).after _).after _).after _).lit (by simp), (((Held.new ((w.alloc (.cells #[.pointer (some ⟨at_ L 0, 0, none⟩)] 79)).alloc (.cells #[.int .i64 tx] 3)) #[.int .i64 0] 3).after _).after _).lit (by simp), ((Held.new (((w.alloc (.cells #[.pointer (some ⟨at_ L 0, 0, none⟩)] 79)).alloc (.cells #[.int .i64 tx] 3)).alloc (.cells #[.int .i64 0] 3)) #[.pointer (some ⟨at_ L 0, 0, none⟩)] 79).after _).lit (by simp), hR.onward hB5, hB5, by simp⟩,
      (Held.new ((((w.alloc (.cells #[.pointer (some ⟨at_ L 0, 0, none⟩)] 79)).alloc (.cells #[.int .i64 tx] 3)).alloc (.cells #[.int .i64 0] 3)).alloc (.cells #[.pointer (some ⟨at_ L 0, 0, none⟩)] 79)) #[.pointer (some ⟨at_ L 0, 0, none⟩)] 77).lit (by simp)⟩
  have hz5 : (((((w.alloc (.cells #[.pointer (some ⟨at_ L 0, 0, none⟩)] 79)).alloc (.cells #[.int .i64 tx] 3)).alloc (.cells #[.int .i64 0] 3)).alloc (.cells #[.pointer (some ⟨at_ L 0, 0, none⟩)] 79)).alloc (.cells #[.pointer (some ⟨at_ L 0, 0, none⟩)] 77)).heap.size = w.heap.size + 1 + 1 + 1 + 1 + 1 := by simp
  have HZ := Lib.hid hz5
  have hlt := hR.lt
  have hBw := hR.size
  have hlen := hR.len
  clear hB5 hz5 hR
  unfold ptr at HBi ⊢
  refine callsIn_of_wp_marks Try.func62 rfl hg ?_ hro
  simp only [Try.ntmps62, List.size_toArray, List.length_cons, List.length_nil, Nat.reduceAdd, Nat.reduceSub, Array.replicate_succ, Array.replicate_zero, List.push_toArray, List.append_toArray, List.nil_append, List.cons_append]
  gi_wp2_with (gi_at_call 105; refine (HBi.out _).mono ?_; rintro e w' ⟨rfl, rfl⟩)
  generalize (((((w.alloc (.cells #[.pointer (some ⟨at_ L 0, 0, none⟩)] 79)).alloc (.cells #[.int .i64 tx] 3)).alloc (.cells #[.int .i64 0] 3)).alloc (.cells #[.pointer (some ⟨at_ L 0, 0, none⟩)] 79)).alloc (.cells #[.pointer (some ⟨at_ L 0, 0, none⟩)] 77)) = W0 at *
  have hz0 : w.heap.size + 1 + 1 + 1 + 1 + 1 = W0.heap.size := HZ.out.symm
  refine wpIn_rangeFunc_ownF hro h1 (gf := 133) (lb := #[.pointer (some ⟨w.heap.size + 1 + 1 + 1 + 1, 0, none⟩), .pointer (some ⟨w.heap.size + 1 + 1 + 1, 0, none⟩)]) rfl hb1 (enters_of Try.func133 (by kernel_rfl) rfl)
    (before_stops F (d - 1) hb1 hro (by omega) (w.heap.size + 1 + 1 + 1 + 1) (w.heap.size + 1 + 1 + 1) B W0.heap.size L ns 0 ns.length (by omega) (Nat.le_refl _) rfl W0 (by omega) (by omega) (by omega) (HK.out.2.of 0 _ rfl) (HK.out.1.mrk.of 0 _ rfl) HK.out.1.ring (fun i hi => by have := hlt i hi; omega) (by omega)) belowK_t (belowK_b (Nat.le_refl _)) (Below.refl _ _) (fun _ => rfl)
    (fun pre W => (∀ y ∈ pre, hitK tx (noteAt ns y) = false) ∧ LkW w W0.heap.size B L ns tx 0 W)
    (fun c pre W => c = .ret ∧ ∃ p x, pre = p ++ [x] ∧ (∀ y ∈ p, hitK tx (noteAt ns y) = false) ∧ hitK tx (noteAt ns x) = true ∧ LkW w W0.heap.size B L ns tx (noteAt ns x).kind W)
    (ownFrom_of _ (fun s W h => h.2.size) (fun s W W' h hb => ⟨h.1, h.2.below (by omega) hlt hBw hb⟩))
    (fun c => ownFrom_of _ (fun s W h => by obtain ⟨_, _, _, _, _, _, h⟩ := h; exact h.size) (fun s W W' h hb => by obtain ⟨h0, p, x, h1, h2, h3, h4⟩ := h; exact ⟨h0, p, x, h1, h2, h3, h4.below (by omega) hlt hBw hb⟩))
    ⟨by simp, hz0 ▸ HK.out.1⟩
    (fun x => { tmps := #[.agg #[.pointer (some ⟨at_ L 0, 0, none⟩)], .int .i64 tx, .pointer (some ⟨w.heap.size, 0, none⟩), .pointer (some ⟨w.heap.size + 1, 0, none⟩), .pointer (some ⟨w.heap.size + 1 + 1, 0, none⟩), .pointer (some ⟨at_ L x.1, 0, none⟩), .agg #[.pointer (some ⟨at_ L 0, 0, none⟩)], .pointer (some ⟨w.heap.size, 0, none⟩), .pointer (some ⟨at_ L 0, 0, none⟩),
      .func (.func 133) #[] #[.pointer (some ⟨w.heap.size + 1 + 1 + 1 + 1, 0, none⟩), .pointer (some ⟨w.heap.size + 1 + 1 + 1, 0, none⟩)], .pointer (some ⟨at_ L x.1, 0, none⟩), undef, undef, undef, undef, undef, undef, undef, undef, undef, undef, undef, undef, undef, undef, undef, undef, undef, undef, undef, undef], defers := [] }) ?assign ?body ?done ?stop
  case assign =>
    intro l x W K hK
    unfold ptr
    gi_wp2
    exact hK
  case body =>
    rintro l pre x W ⟨hpre, hK⟩ _
    obtain ⟨y, A1, c1, A2, c2, hy, q0, q1, -, -, -⟩ := hK.ring.at_ (k := x.1 - 1) (by have := x.2; omega)
    have hxe : x.1 - 1 + 1 = x.1 := by have := x.2; omega
    rw [hxe] at q0 q1
    have hyn : noteAt ns x = y := noteAt_get hy hxe.symm
    have t0 := hK.tx.of 0 _ rfl
    have r0 := hK.res.of 0 _ rfl
    have rf := hK.res.2.1 0
    have HK := Lib.hid hK
    have HP := Lib.hid hpre
    have HY := Lib.hid hyn
    clear hK hpre hyn hy hxe
    have hmix : Try.prog.follows .mixedOrders = true := by kernel_rfl
    by_cases h1 : y.tx = tx
    · have e1 : (y.tx == tx) = true := by simp [h1]
      by_cases h2 : y.kind = 4
      · have e2 : (y.kind != 4) = false := by simp [h2]
        have HH : Hid (hitK tx (noteAt ns x) = false) := Lib.hid (by rw [HY.out]; unfold hitK; simp [h2])
        clear h1 h2
        gi_wp2
        gi_region_with_o (fail)
        all_goals gi_wp2
        all_goals exact ⟨KeepsOthers.drew _, (Below.refl _ _).drew, snocAll HP.out HH.out, HK.out.below (by omega) hlt hBw (Below.refl _ _).drew⟩
      · have e2 : (y.kind != 4) = true := by simp [h2]
        have HH : Hid (hitK tx (noteAt ns x) = true) := Lib.hid (by rw [HY.out]; unfold hitK; simp [h1, h2])
        clear h1 h2
        gi_wp2
        gi_region_with_o (fail)
        all_goals gi_wp2
        all_goals exact ⟨(KeepsOthers.drew _).trans (KeepsOthers.setCell _ _ _), rfl, pre, x, rfl, HP.out, HH.out, by rw [HY.out]; exact (HK.out.below (by omega) hlt hBw (Below.refl _ _).drew).put hlt hBw _⟩
    · have e1 : (y.tx == tx) = false := by simp [h1]
      have HH : Hid (hitK tx (noteAt ns x) = false) := Lib.hid (by rw [HY.out]; unfold hitK; simp [h1])
      clear h1
      gi_wp2
      gi_region_with_o (fail)
      all_goals gi_wp2
      all_goals exact ⟨KeepsOthers.drew _, (Below.refl _ _).drew, snocAll HP.out HH.out, HK.out.below (by omega) hlt hBw (Below.refl _ _).drew⟩
  case done =>
    rintro D ys W hD rfl ⟨hpre, hK⟩ hDf
    have r0 := hK.res.of 0 _ rfl
    have rf := hK.res.2.1 0
    have HP := Lib.hid (last_none hpre)
    have HK := Lib.hid hK
    have HD := Lib.hid hDf
    clear hpre hK hDf
    gi_wp2
    have hD' := (KeepsOthers.setCell W ⟨w.heap.size + 1 + 1, 0, none⟩ (.int .i64 0)).same D _ HD.out rfl
    refine ⟨by simp, .inl ⟨_, _, rfl, run_takeDeferred hD', ?_⟩⟩
    have hc5 := cell_kept ((HK.out.put hlt hBw 0).res.of 0 _ rfl) (grownBy_putObj' _ D (.deferred none)) (fun r e => by cases e; exact ⟨_, hD', rfl⟩)
    refine ⟨.int .i64 0, ?_, by rw [HP.out], (HK.out.put hlt hBw 0).bel.trans (belowK_b (w := w) (Nat.le_refl _) _ D _ _ (by omega) hD' rfl rfl)⟩
    simp [results, Try.f62, go_sem, hc5]
  case stop =>
    rintro D c pre W hD hpre ⟨rfl, p, x, rfl, hp, hx, hK⟩ hDf
    have HP := Lib.hid (last_at hpre hp hx)
    have HK := Lib.hid hK
    have HD := Lib.hid hDf
    clear hpre hp hx hK hDf
    gi_wp2
    refine ⟨by simp, .inl ⟨_, _, rfl, run_takeDeferred HD.out, ?_⟩⟩
    have hc5 := cell_kept (HK.out.res.of 0 _ rfl) (grownBy_putObj' _ D (.deferred none)) (fun r e => by cases e; exact ⟨_, HD.out, rfl⟩)
    refine ⟨.int .i64 (noteAt ns x).kind, ?_, by rw [HP.out], HK.out.bel.trans (belowK_b (w := w) (Nat.le_refl _) W D _ _ (by omega) HD.out rfl rfl)⟩
    simp [results, Try.f62, go_sem, hc5]

/-- The same, outside a fence. -/
theorem lastKind_any (w : World) (B : Nat) (L : List Nat) (ns : List Note) (tx : Int) (hR : Ring w B L ns) :
    Calls Try.prog 62 #[.agg #[ptr (at_ L 0)], .int .i64 tx] w fun e W' => e = .returned (.int .i64 (lastK ns tx)) ∧ Below w.heap.size w W' :=
  (callsIn_wide (n := 3)).1 (lastKind_in _ _ trivial trivial trivial rfl (by omega) w B L ns tx hR)

end Go.Proofs.Ytkamlibfcakblaa

/- Slices whose row is the call's own, and whose elements reach what lay there before: made by append out of parts of others. -/
namespace Go.Proofs.Ytkamlibfcakblaa
open Go.RowKit

/-- A row of the call's own, from block B on; what its elements reach lies below B. -/
def Sh.Shal {α : Type} (A : Sh α) (e : TypeId) (w : World) (B : Nat) (v : Value) (xs : List α) : Prop :=
  ∃ C : Nat → List Value, w.ownsRow 0 e A.wd v xs.length (flat C xs.length) ∧ (∀ g, v.ownBlock = some g → B ≤ g) ∧ ∀ j x, xs[j]? = some x → A.rel w B (C j) x
section
variable {α : Type} {A : Sh α} {e : TypeId} {w w' : World} {B : Nat} {v : Value} {xs ys : List α}
theorem Sh.Shal.below (h : A.Shal e w B v xs) (hb : Below w.heap.size w w') (hB : B ≤ w.heap.size) : A.Shal e w' B v xs := by
  obtain ⟨C, h1, h2, h3⟩ := h
  exact ⟨C, ownsRow_keep h1 fun b _ hlt => hb.block b hlt, h2, fun j x hx => A.rbelow (h3 j x hx) (hb.mono hB)⟩
theorem Sh.Shal.alloc (h : A.Shal e w B v xs) (hB : B ≤ w.heap.size) (o : Obj) : A.Shal e (w.alloc o) B v xs := h.below (belowOne w o) hB
theorem Sh.Shal.set (h : A.Shal e w B v xs) {p : Addr} (hp : B ≤ p.block) (hv : v.ownBlock ≠ some p.block) (u : Value) : A.Shal e (w.setCell p u) B v xs := by
  obtain ⟨C, h1, h2, h3⟩ := h
  exact ⟨C, ownsRow_keep h1 fun b hb _ => Below.heap_setCell w p u b (fun e1 => hv (by rw [hb, e1])), h2, fun j x hx => A.rbelow (h3 j x hx) ((Below.refl _ _).setCell hp u)⟩
theorem Sh.Shal.empty {g : Nat} (hg : w.heap[g]? = some (.cells #[] e (0, 0))) (hB : B ≤ g) : A.Shal e w B (.slice (some ⟨g, 0, none⟩) 0 0) [] :=
  ⟨fun _ => [], ⟨by simp [flat], .inr ⟨g, 0, #[], rfl, Nat.zero_le _, hg, Nat.le_refl _, Nat.zero_le _, by simp, by simp [flat]⟩⟩, fun q hq => by rw [← Option.some.inj hq]; exact hB, fun j x hx => by simp at hx⟩
theorem Sh.Shal.nil (w : World) : A.Shal e w B (.slice none 0 0) [] := ⟨fun _ => [], World.ownsRow_nil _ _ _ _, fun g hg => (by cases hg), fun j x hx => by simp at hx⟩
theorem Sh.Shal.form (h : A.Shal e w B v xs) : (v = .slice none 0 0 ∧ xs = []) ∨ ∃ g cap, v = .slice (some ⟨g, 0, none⟩) xs.length cap ∧ B ≤ g ∧ g < w.heap.size ∧ xs.length ≤ cap ∧ cap ≤ maxLen := by
  obtain ⟨C, h1, h2, _⟩ := h
  rcases h1.2 with ⟨hv, h0⟩ | ⟨g, cap, cur, hv, hb, hg, hn, hm, _⟩
  · exact .inl ⟨hv, List.length_eq_zero_iff.1 h0⟩
  · exact .inr ⟨g, cap, hv, h2 g (by rw [hv]; rfl), (Array.getElem?_eq_some_iff.1 hg).1, hn, hm⟩
theorem Sh.Shal.row (h : A.Shal e w B v xs) (hB : B ≤ w.heap.size) : A.Row w w.heap.size v xs := by
  rcases h.form with ⟨rfl, rfl⟩ | ⟨g, cap, rfl, _, hg, hc1, hc2⟩
  · exact Sh.Row.nil _ _
  · obtain ⟨C, h1, h2, h3⟩ := h
    refine ⟨_, cap, rfl, hc1, hc2, fun _ => ⟨g, 0, rfl, hg, fun j x hx => ?_⟩⟩
    have hj : j < xs.length := (List.getElem?_eq_some_iff.1 hx).1
    have hC : ∀ j, j < xs.length → (C j).length = A.wd := fun j hj => A.rlen (h3 j _ (List.getElem?_eq_getElem hj))
    refine ⟨C j, A.rmore (h3 j x hx) hB, fun i u hu => ?_⟩
    have hi : i < A.wd := by rw [← hC j hj]; exact (List.getElem?_eq_some_iff.1 hu).1
    have hlt : j * A.wd + i < xs.length * A.wd := by
      have := Nat.mul_le_mul_right A.wd (show j + 1 ≤ xs.length by omega)
      rw [Nat.add_mul, Nat.one_mul] at this; omega
    rw [Nat.zero_add, h1.cellAt _ hlt, flat_at hC hj hi, hu]

/-- A part of a slice. -/
theorem Sh.Row.take (h : A.Row w B v xs) {Ad : Option Addr} {c k : Nat} (hv : v = .slice Ad xs.length c) (hk : k ≤ xs.length) : A.Row w B (.slice Ad k c) (xs.take k) := by
  obtain ⟨Ad', c', e1, h1, h2, hr⟩ := h
  rw [hv] at e1
  injection e1 with e1 _ e3
  subst e1 e3
  have hl : (xs.take k).length = k := by simp; omega
  refine ⟨Ad, c, by rw [hl], by omega, h2, fun hn => ?_⟩
  obtain ⟨b, off, hA, hb, hc⟩ := hr (by omega)
  refine ⟨b, off, hA, hb, fun j x hx => hc j x ?_⟩
  rw [List.getElem?_take] at hx
  split at hx
  · exact hx
  · cases hx
theorem Sh.Row.zero (A : Sh α) (w : World) (B : Nat) (Ad : Option Addr) (c : Nat) (hc : c ≤ maxLen) : A.Row w B (.slice Ad 0 c) [] := ⟨Ad, c, rfl, Nat.zero_le _, hc, fun h => absurd h (by simp)⟩
theorem Sh.Row.drop {b off c k : Nat} (h : A.Row w B (.slice (some ⟨b, off, none⟩) xs.length c) xs) (hk : k < xs.length) : A.Row w B (.slice (some ⟨b, off + k * A.wd, none⟩) (xs.length - k) (c - k)) (xs.drop k) := by
  obtain ⟨Ad', c', e1, h1, h2, hr⟩ := h
  injection e1 with e1 _ e3
  subst e1 e3
  have hl : (xs.drop k).length = xs.length - k := by simp
  refine ⟨_, c - k, by rw [hl], by omega, by omega, fun hn => ?_⟩
  obtain ⟨b', off', hA, hb, hc⟩ := hr (by omega)
  injection hA with hA
  injection hA with hA1 hA2
  subst hA1 hA2
  refine ⟨b, _, rfl, hb, fun j x hx => ?_⟩
  rw [List.getElem?_drop] at hx
  obtain ⟨cs, h3, h4⟩ := hc _ x hx
  refine ⟨cs, h3, fun i u hu => ?_⟩
  rw [← h4 i u hu]
  congr 2
  rw [Nat.add_mul]; omega
end

section
variable {P : Program} {α : Type} {A : Sh α} {e t : TypeId} {w : World} {B : Nat} {v : Value} {xs ys : List α}
/-- append of a slice that is read. -/
theorem Sh.shal_run (i : TypeInfo) (z : Value) (bytes : Nat) (ht : P.underlying t = some (.slice e)) (hi : P.info? e = some i) (hz : i.zero = some z) (hsize : i.size = A.wd) (hby : i.bytes = bytes) (hzs : z.cells.size = A.wd) (hsz : 0 < A.wd)
    (hv : A.Shal e w B v xs) (hB : B ≤ w.heap.size) (Ad : Option Addr) (n c : Nat) (hn : n = ys.length) (hy : A.Row w B (.slice Ad n c) ys) (ty : TypeId) (hl : xs.length + ys.length ≤ 2097152) (hbl : bytes ≤ 65536) :
    ∃ v' w', (Builtin.append_ #[t, t] ty #[v, .slice Ad n c]).run P w = .ok v' w' ∧ A.Shal e w' B v' (xs ++ ys) ∧ Below B w w' ∧ (v'.ownBlock = v.ownBlock ∨ v'.ownBlock = some w.heap.size) ∧ w.grownBy w' v.ownBlock := by
  subst hn
  obtain ⟨C, h1, h2, h3⟩ := hv
  obtain ⟨Ad', c', e1, hc1, hc2, hrow⟩ := hy
  injection e1 with e1 _ e3
  subst e1 e3
  cases Ad with
  | none =>
    have h0 : ys = [] := by
      cases ys with
      | nil => rfl
      | cons y l => obtain ⟨_, _, h, _⟩ := hrow (by simp); cases h
    subst h0
    refine ⟨v, w, ?_, ⟨C, by simpa using h1, h2, by simpa using h3⟩, Below.refl _ _, .inl rfl, World.grownBy.refl _ _⟩
    rcases h1.2 with ⟨rfl, h0⟩ | ⟨g, cap, cur, rfl, _, _, hnc, _⟩
    · simp [Builtin.append_, run_underlying ht, sizeOf, typeInfo, hi, Builtin.lenOf, Builtin.firstCells]
    · simp [Builtin.append_, run_underlying ht, sizeOf, typeInfo, hi, Builtin.lenOf, Builtin.firstCells, hnc, storeCells]
  | some ad =>
    have hD : ∀ j, j < ys.length → ∃ cs x, ys[j]? = some x ∧ A.rel w B cs x ∧ ∀ i u, cs[i]? = some u → w.cell? (ad.add (j * A.wd + i)) = some u := by
      intro j hj
      obtain ⟨b, off, hA, hb, hc⟩ := hrow (by omega)
      injection hA with hA
      subst hA
      obtain ⟨cs, h4, h5⟩ := hc j _ (List.getElem?_eq_getElem hj)
      exact ⟨cs, _, List.getElem?_eq_getElem hj, h4, fun i u hu => by rw [add_none, ← Nat.add_assoc]; exact h5 i u hu⟩
    let D : Nat → List Value := fun j => if h : j < ys.length then Classical.choose (hD j h) else []
    have hDs : ∀ j (h : j < ys.length), ∃ x, ys[j]? = some x ∧ A.rel w B (D j) x ∧ ∀ i u, (D j)[i]? = some u → w.cell? (ad.add (j * A.wd + i)) = some u := fun j h => by
      have := Classical.choose_spec (hD j h)
      simpa only [D, dif_pos h] using this
    have hDl : ∀ j, j < ys.length → (D j).length = A.wd := fun j h => by obtain ⟨x, _, h4, _⟩ := hDs j h; exact A.rlen h4
    have hsrc : ∀ j u, (flat D ys.length)[j]? = some u → w.cell? (ad.add j) = some u := by
      intro j u hu
      have hj : j < ys.length * A.wd := by rw [← flat_len hDl]; exact (List.getElem?_eq_some_iff.1 hu).1
      have q1 : j / A.wd < ys.length := Nat.div_lt_of_lt_mul (by rw [Nat.mul_comm]; exact hj)
      have q2 : j % A.wd < A.wd := Nat.mod_lt j hsz
      have q3 : j / A.wd * A.wd + j % A.wd = j := by rw [Nat.mul_comm]; exact Nat.div_add_mod j A.wd
      rw [← q3, flat_at hDl q1 q2] at hu
      obtain ⟨x, _, _, h5⟩ := hDs _ q1
      have := h5 _ u hu
      rwa [q3] at this
    have hone : ∀ u ∈ flat D ys.length, u.oneCell' = true := by
      intro u hu
      obtain ⟨j, hj, hu⟩ := List.mem_flatMap.1 hu
      obtain ⟨x, _, h4, _⟩ := hDs j (List.mem_range.1 hj)
      exact A.rone h4 u hu
    have hb2 : (xs.length + ys.length) * bytes ≤ 140737488355328 := Nat.le_trans (Nat.mul_le_mul hl hbl) (by decide)
    obtain ⟨v', w', hr, q2, hg, _, q5⟩ := run_append_own_at (P := P) w 0 t ty e i z A.wd bytes ht hi hz hsize hby hzs hsz v xs.length _ h1 ad ys.length c (flat D ys.length) (flat_len hDl) hsrc hone (by unfold maxLen; omega) hb2 (Nat.zero_le _)
    have hbel : Below B w w' := (Below.refl B w).grown hg hB h2
    refine ⟨v', w', hr, ⟨fun j => if j < xs.length then C j else D (j - xs.length), by rw [List.length_append, flat_app]; exact q2, fun g hg' => ?_, fun j x hx => ?_⟩, hbel, q5, hg⟩
    · rcases q5 with h | h
      · exact h2 g (h ▸ hg')
      · rw [h] at hg'; rw [← Option.some.inj hg']; exact hB
    · by_cases hj : j < xs.length
      · rw [List.getElem?_append_left hj] at hx
        simp only [hj, if_true]
        exact A.rbelow (h3 j x hx) hbel
      · rw [List.getElem?_append_right (by omega)] at hx
        simp only [hj, if_false]
        obtain ⟨y, hy, h4, _⟩ := hDs _ (List.getElem?_eq_some_iff.1 hx).1
        rw [hx] at hy
        injection hy with hy
        rw [hy]
        exact A.rbelow h4 hbel
/-- The same, as a step of a region that draws. -/
theorem Sh.shal_step {ops : Array Oper} {o : Oper} {a : Act} {K : Act → World → Prop} {Q : Exit → Act → World → Prop} {E : Prop} (hgd : o.guard = none) (s x : Operand) (i : TypeInfo) (z : Value) (bytes : Nat) (ht : P.underlying t = some (.slice e)) (hi : P.info? e = some i) (hz : i.zero = some z) (hsize : i.size = A.wd) (hby : i.bytes = bytes) (hzs : z.cells.size = A.wd) (hsz : 0 < A.wd)
    (ho : o.op = .call { callee := .builtin .append, args := #[s, x], argTypes := #[t, t] }) (hs : a.eval s = v) (hv : A.Shal e w B v xs) (hB : B ≤ w.heap.size) (Ad : Option Addr) (n c : Nat) (hx : a.eval x = .slice Ad n c) (hn : n = ys.length) (hy : A.Row w B (.slice Ad n c) ys) (hl : xs.length + ys.length ≤ 2097152) (hbl : bytes ≤ 65536)
    (h : ∀ v' w', A.Shal e w' B v' (xs ++ ys) → Below B w w' → (v'.ownBlock = v.ownBlock ∨ v'.ownBlock = some w.heap.size) → w.grownBy w' v.ownBlock → K (a.put o.dst v') w') : if Region.wanted o (yielded ops a.tmps) = true then Oper.wp P o a w K Q else E := by
  have hw : Region.wanted o (yielded ops a.tmps) = true := by simp [Region.wanted, hgd]
  rw [if_pos hw]
  obtain ⟨v', w', hr, h2, h3, h4, h5⟩ := Sh.shal_run (P := P) i z bytes ht hi hz hsize hby hzs hsz hv hB Ad n c hn hy o.type hl hbl
  unfold Oper.wp execOp
  simp only [ho, resolve, invoke, builtin, Sem.run_bind, Sem.run_pure, Result.andThen_ok, List.map_toArray, List.map_cons, List.map_nil, hs, hx, hr]
  exact h v' w' h2 h3 h4 h5
end

end Go.Proofs.Ytkamlibfcakblaa
