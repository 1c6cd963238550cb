/- Texts that follow each other, merged: LastKind, Tight, RegIn. -/
import Derived.Test.YtkamlibfcakblaaXListOf
import Derived.Test.YtkamlibfcakblaaXShOwn
import Derived.RangeFuncFrom
import Derived.Test.YtkamlibfcakblaaXNoteOk
import Derived.OrdersIn
import Derived.RangeFuncNested

/- What lastKind answers: the kind of the last note of a transaction that is not an end. -/
namespace Go.Proofs.Ytkamlibfcakblaa
open Go.RowKit Go.Shelf

attribute [local go_sem] Oper.semAt_some

/-- A note of tx that says what became of it. -/
def hitK (tx : Int) (n : Note) : Bool := decide (n.tx = tx) && decide (n.kind ≠ 4)
def stepK (tx : Int) (how : Int) (n : Note) : Int := if hitK tx n = true then n.kind else how
/-- What is noted of tx last. -/
def lastK (ns : List Note) (tx : Int) : Int := ns.foldl (stepK tx) 0
theorem foldK_none {tx : Int} : ∀ {ns : List Note} {h : Int}, (∀ (j : Nat) (x : Note), ns[j]? = some x → hitK tx x = false) → ns.foldl (stepK tx) h = h
  | [], _, _ => rfl
  | n :: ns, h, hn => by
    have h0 := hn 0 n rfl
    rw [List.foldl_cons, foldK_none (ns := ns) fun j x hx => hn (j + 1) x (by simpa using hx)]
    simp [stepK, h0]
theorem lastK_none {ns : List Note} {tx : Int} (h : ∀ (j : Nat) (x : Note), ns[j]? = some x → hitK tx x = false) : lastK ns tx = 0 := foldK_none h
theorem lastK_at {ns : List Note} {tx : Int} {i : Nat} {x : Note} (hx : ns[i]? = some x) (hh : hitK tx x = true) (hr : ∀ (j : Nat) (y : Note), i < j → ns[j]? = some y → hitK tx y = false) : lastK ns tx = x.kind := by
  unfold lastK
  rw [← List.take_append_drop (i + 1) ns, List.foldl_append, take_snoc hx, List.foldl_append, foldK_none (ns := ns.drop (i + 1)) fun j y hy => hr (i + 1 + j) y (by omega) (by rw [List.getElem?_drop] at hy; exact hy)]
  simp [stepK, hh]
theorem mem_down {n : Nat} : ∀ {s : Nat} {h : s ≤ n} {j : Nat}, 1 ≤ j → j ≤ s → ∃ y ∈ down n s h, y.1 = j
  | 0, _, j, h1, h2 => by omega
  | s + 1, h, j, h1, h2 => by
    by_cases e : j = s + 1
    · exact ⟨⟨s + 1, by omega, h⟩, by simp [down], e.symm⟩
    · obtain ⟨y, hy, e'⟩ := mem_down (h := show s ≤ n by omega) h1 (show j ≤ s by omega)
      exact ⟨y, by simp [down, hy], e'⟩
theorem pre_down {n : Nat} : ∀ {s : Nat} {h : s ≤ n} {pre : List (Spot n)} {x : Spot n}, pre ++ [x] <+: down n s h → ∀ j, x.1 < j → j ≤ s → ∃ y ∈ pre, y.1 = j
  | 0, _, pre, x, hp, j, h1, h2 => by omega
  | s + 1, h, [], x, hp, j, h1, h2 => by
    simp [down] at hp
    have : x.1 = s + 1 := by rw [hp]
    omega
  | s + 1, h, p :: pre, x, hp, j, h1, h2 => by
    simp only [down, List.cons_append, List.cons_prefix_cons] at hp
    by_cases e : j = s + 1
    · exact ⟨p, by simp, by rw [hp.1, e]⟩
    · obtain ⟨y, hy, e'⟩ := pre_down hp.2 j h1 (by omega)
      exact ⟨y, by simp [hy], e'⟩

/-- The note at a spot. -/
def noteAt (ns : List Note) (x : Spot ns.length) : Note := ns[x.1 - 1]'(by have := x.2; omega)
theorem noteAt_get {ns : List Note} {x : Spot ns.length} {j : Nat} {y : Note} (hj : ns[j]? = some y) (e : x.1 = j + 1) : noteAt ns x = y := by
  obtain ⟨h, rfl⟩ := List.getElem?_eq_some_iff.1 hj
  unfold noteAt
  congr 1
  omega
theorem last_none {ns : List Note} {tx : Int} (h : ∀ y ∈ down ns.length ns.length (Nat.le_refl _), hitK tx (noteAt ns y) = false) : lastK ns tx = 0 := lastK_none fun j x hx => by
  have hj := (List.getElem?_eq_some_iff.1 hx).1
  obtain ⟨y, hy, e⟩ := mem_down (h := Nat.le_refl ns.length) (show 1 ≤ j + 1 by omega) (show j + 1 ≤ ns.length by omega)
  rw [← noteAt_get hx e]; exact h y hy
theorem last_at {ns : List Note} {tx : Int} {pre : List (Spot ns.length)} {x : Spot ns.length} (hp : pre ++ [x] <+: down ns.length ns.length (Nat.le_refl _)) (hpre : ∀ y ∈ pre, hitK tx (noteAt ns y) = false) (hx : hitK tx (noteAt ns x) = true) : lastK ns tx = (noteAt ns x).kind := by
  have h2 := x.2
  have hg : ns[x.1 - 1]? = some (noteAt ns x) := List.getElem?_eq_getElem (by omega)
  refine lastK_at hg hx fun j y hj hy => ?_
  have hjl := (List.getElem?_eq_some_iff.1 hy).1
  obtain ⟨z, hz, e⟩ := pre_down hp (j + 1) (by omega) (by omega)
  rw [← noteAt_get hy e]; exact hpre z hz

set_option maxRecDepth 100000 in
theorem before_in (F : Fence) (d : Nat) (hg : F.fn 105) (hro : F.round = none) (m a : Nat) (w : World) :
    CallsIn F d Try.prog 105 #[.agg #[ptr m], ptr a] w fun e w' => e = .returned (.func (.func 133) #[] #[ptr (w.heap.size + 1), ptr w.heap.size]) ∧ w' = (w.alloc (.cells #[ptr m] 79)).alloc (.cells #[ptr a] 77) := by
  unfold ptr
  refine callsIn_of_wp Try.func105 rfl hg ?_ hro
  simp only [Try.ntmps105, List.size_toArray, List.length_cons, List.length_nil, Nat.reduceAdd, Nat.reduceSub, Array.replicate_succ, Array.replicate_zero, List.push_toArray, List.append_toArray, List.nil_append, List.cons_append]
  gi_wp2
  go_ret
  exact ⟨rfl, rfl⟩

theorem ownFrom_of {β : Type} {I : β → World → Prop} (n : Nat) (hI : ∀ s W, I s W → n ≤ W.heap.size) (hB : ∀ s W W', I s W → Below n W W' → I s W') : OwnFrom n I := fun s W W' _ hs hg hr => hB s W W' hs ((Below.refl _ W).grown hg (hI s W hs) (fun k e => (hr k e).1))

/-- What holds while lastKind looks: who is sought, the result, the marker, the ring. -/
structure LkW (w : World) (n0 : Nat) (B : Nat) (L : List Nat) (ns : List Note) (tx r : Int) (W : World) : Prop where
  tx : Held W (w.heap.size + 1) [.int .i64 tx]
  res : Held W (w.heap.size + 1 + 1) [.int .i64 r]
  mrk : Held W (w.heap.size + 1 + 1 + 1) [.pointer (some ⟨at_ L 0, 0, none⟩)]
  ring : Ring W B L ns
  bel : Below w.heap.size w W
  size : n0 ≤ W.heap.size
theorem LkW.below {w : World} {n0 B : Nat} {L : List Nat} {ns : List Note} {tx r : Int} {W W' : World} (h : LkW w n0 B L ns tx r W) (hn : w.heap.size + 1 + 1 + 1 < n0) (hR : ∀ i, i < L.length → at_ L i < w.heap.size) (hB : B ≤ w.heap.size) (hb : Below n0 W W') : LkW w n0 B L ns tx r W' :=
  ⟨h.tx.below hb (by omega), h.res.below hb (by omega), h.mrk.below hb (by omega), h.ring.below hb (by omega) (fun i hi => by have := hR i hi; omega), h.bel.trans (hb.mono (by omega)), Nat.le_trans h.size hb.size⟩

theorem LkW.put {w : World} {n0 B : Nat} {L : List Nat} {ns : List Note} {tx r : Int} {W : World} (h : LkW w n0 B L ns tx r W) (hR : ∀ i, i < L.length → at_ L i < w.heap.size) (hB : B ≤ w.heap.size) (k : Int) : LkW w n0 B L ns tx k (W.setCell ⟨w.heap.size + 1 + 1, 0, none⟩ (.int .i64 k)) :=
  ⟨h.tx.farS (by show _ ≠ w.heap.size + 1 + 1; omega) _, h.res.set_ (i := 0) _, h.mrk.farS (by show _ ≠ w.heap.size + 1 + 1; omega) _, h.ring.below (n := w.heap.size) ((Below.refl _ _).setCell (by show w.heap.size ≤ w.heap.size + 1 + 1; omega) _) hB hR, h.bel.setCell (by show w.heap.size ≤ w.heap.size + 1 + 1; omega) _, by simpa [World.setCell] using h.size⟩
theorem snocAll {α : Type} {P : α → Prop} {l : List α} {x : α} (h : ∀ y ∈ l, P y) (hx : P x) : ∀ y ∈ l ++ [x], P y := by
  intro y hy
  rcases List.mem_append.1 hy with h' | h'
  · exact h y h'
  · rw [List.mem_singleton.1 h']; exact hx

set_option maxRecDepth 100000 in
set_option maxHeartbeats 2000000 in
theorem lastKind_in (F : Fence) (d : Nat) (hg : F.fn 62) (hb : F.fn 105) (hb1 : F.fn 133) (hro : F.round = none) (hd : 3 ≤ d) (w : World) (B : Nat) (L : List Nat) (ns : List Note) (tx : Int) (hR : Ring w B L ns) :
    CallsIn F d Try.prog 62 #[.agg #[ptr (at_ L 0)], .int .i64 tx] w fun e W' => e = .returned (.int .i64 (lastK ns tx)) ∧ Below w.heap.size w W' := by
  have h1 : 1 ≤ d := by omega
  have HBi := Lib.hid (before_in F (d - 1) hb hro (at_ L 0) (at_ L 0))
  have hB5 : Below w.heap.size w (((((w.alloc (.cells #[.pointer (some ⟨at_ L 0, 0, none⟩)] 79)).alloc (.cells #[.int .i64 tx] 3)).alloc (.cells #[.int .i64 0] 3)).alloc (.cells #[.pointer (some ⟨at_ L 0, 0, none⟩)] 79)).alloc (.cells #[.pointer (some ⟨at_ L 0, 0, none⟩)] 77)) :=
    ((belowThree _ _ _ _).alloc (by simp; omega) _).alloc (by simp; omega) _
  have HK : Hid (LkW w (w.heap.size + 1 + 1 + 1 + 1 + 1) B L ns tx 0 (((((w.alloc (.cells #[.pointer (some ⟨at_ L 0, 0, none⟩)] 79)).alloc (.cells #[.int .i64 tx] 3)).alloc (.cells #[.int .i64 0] 3)).alloc (.cells #[.pointer (some ⟨at_ L 0, 0, none⟩)] 79)).alloc (.cells #[.pointer (some ⟨at_ L 0, 0, none⟩)] 77)) ∧ Held (((((w.alloc (.cells #[.pointer (some ⟨at_ L 0, 0, none⟩)] 79)).alloc (.cells #[.int .i64 tx] 3)).alloc (.cells #[.int .i64 0] 3)).alloc (.cells #[.pointer (some ⟨at_ L 0, 0, none⟩)] 79)).alloc (.cells #[.pointer (some ⟨at_ L 0, 0, none⟩)] 77)) (w.heap.size + 1 + 1 + 1 + 1) [.pointer (some ⟨at_ L 0, 0, none⟩)]) := Lib.hid
    ⟨⟨((((Held.new (w.alloc (.cells #[.pointer (some ⟨at_ L 0, 0, none⟩)] 79)) #[.int .i64 tx] 3).after _).after _).after _).lit (by simp), (((Held.new ((w.alloc (.cells #[.pointer (some ⟨at_ L 0, 0, none⟩)] 79)).alloc (.cells #[.int .i64 tx] 3)) #[.int .i64 0] 3).after _).after _).lit (by simp), ((Held.new (((w.alloc (.cells #[.pointer (some ⟨at_ L 0, 0, none⟩)] 79)).alloc (.cells #[.int .i64 tx] 3)).alloc (.cells #[.int .i64 0] 3)) #[.pointer (some ⟨at_ L 0, 0, none⟩)] 79).after _).lit (by simp), hR.onward hB5, hB5, by simp⟩,
      (Held.new ((((w.alloc (.cells #[.pointer (some ⟨at_ L 0, 0, none⟩)] 79)).alloc (.cells #[.int .i64 tx] 3)).alloc (.cells #[.int .i64 0] 3)).alloc (.cells #[.pointer (some ⟨at_ L 0, 0, none⟩)] 79)) #[.pointer (some ⟨at_ L 0, 0, none⟩)] 77).lit (by simp)⟩
  have hz5 : (((((w.alloc (.cells #[.pointer (some ⟨at_ L 0, 0, none⟩)] 79)).alloc (.cells #[.int .i64 tx] 3)).alloc (.cells #[.int .i64 0] 3)).alloc (.cells #[.pointer (some ⟨at_ L 0, 0, none⟩)] 79)).alloc (.cells #[.pointer (some ⟨at_ L 0, 0, none⟩)] 77)).heap.size = w.heap.size + 1 + 1 + 1 + 1 + 1 := by simp
  have HZ := Lib.hid hz5
  have hlt := hR.lt
  have hBw := hR.size
  have hlen := hR.len
  clear hB5 hz5 hR
  unfold ptr at HBi ⊢
  refine callsIn_of_wp_marks Try.func62 rfl hg ?_ hro
  simp only [Try.ntmps62, List.size_toArray, List.length_cons, List.length_nil, Nat.reduceAdd, Nat.reduceSub, Array.replicate_succ, Array.replicate_zero, List.push_toArray, List.append_toArray, List.nil_append, List.cons_append]
  gi_wp2_with (gi_at_call 105; refine (HBi.out _).mono ?_; rintro e w' ⟨rfl, rfl⟩)
  generalize (((((w.alloc (.cells #[.pointer (some ⟨at_ L 0, 0, none⟩)] 79)).alloc (.cells #[.int .i64 tx] 3)).alloc (.cells #[.int .i64 0] 3)).alloc (.cells #[.pointer (some ⟨at_ L 0, 0, none⟩)] 79)).alloc (.cells #[.pointer (some ⟨at_ L 0, 0, none⟩)] 77)) = W0 at *
  have hz0 : w.heap.size + 1 + 1 + 1 + 1 + 1 = W0.heap.size := HZ.out.symm
  refine wpIn_rangeFunc_ownF hro h1 (gf := 133) (lb := #[.pointer (some ⟨w.heap.size + 1 + 1 + 1 + 1, 0, none⟩), .pointer (some ⟨w.heap.size + 1 + 1 + 1, 0, none⟩)]) rfl hb1 (enters_of Try.func133 (by kernel_rfl) rfl)
    (before_stops F (d - 1) hb1 hro (by omega) (w.heap.size + 1 + 1 + 1 + 1) (w.heap.size + 1 + 1 + 1) B W0.heap.size L ns 0 ns.length (by omega) (Nat.le_refl _) rfl W0 (by omega) (by omega) (by omega) (HK.out.2.of 0 _ rfl) (HK.out.1.mrk.of 0 _ rfl) HK.out.1.ring (fun i hi => by have := hlt i hi; omega) (by omega)) belowK_t (belowK_b (Nat.le_refl _)) (Below.refl _ _) (fun _ => rfl)
    (fun pre W => (∀ y ∈ pre, hitK tx (noteAt ns y) = false) ∧ LkW w W0.heap.size B L ns tx 0 W)
    (fun c pre W => c = .ret ∧ ∃ p x, pre = p ++ [x] ∧ (∀ y ∈ p, hitK tx (noteAt ns y) = false) ∧ hitK tx (noteAt ns x) = true ∧ LkW w W0.heap.size B L ns tx (noteAt ns x).kind W)
    (ownFrom_of _ (fun s W h => h.2.size) (fun s W W' h hb => ⟨h.1, h.2.below (by omega) hlt hBw hb⟩))
    (fun c => ownFrom_of _ (fun s W h => by obtain ⟨_, _, _, _, _, _, h⟩ := h; exact h.size) (fun s W W' h hb => by obtain ⟨h0, p, x, h1, h2, h3, h4⟩ := h; exact ⟨h0, p, x, h1, h2, h3, h4.below (by omega) hlt hBw hb⟩))
    ⟨by simp, hz0 ▸ HK.out.1⟩
    (fun x => { tmps := #[.agg #[.pointer (some ⟨at_ L 0, 0, none⟩)], .int .i64 tx, .pointer (some ⟨w.heap.size, 0, none⟩), .pointer (some ⟨w.heap.size + 1, 0, none⟩), .pointer (some ⟨w.heap.size + 1 + 1, 0, none⟩), .pointer (some ⟨at_ L x.1, 0, none⟩), .agg #[.pointer (some ⟨at_ L 0, 0, none⟩)], .pointer (some ⟨w.heap.size, 0, none⟩), .pointer (some ⟨at_ L 0, 0, none⟩),
      .func (.func 133) #[] #[.pointer (some ⟨w.heap.size + 1 + 1 + 1 + 1, 0, none⟩), .pointer (some ⟨w.heap.size + 1 + 1 + 1, 0, none⟩)], .pointer (some ⟨at_ L x.1, 0, none⟩), undef, undef, undef, undef, undef, undef, undef, undef, undef, undef, undef, undef, undef, undef, undef, undef, undef, undef, undef, undef], defers := [] }) ?assign ?body ?done ?stop
  case assign =>
    intro l x W K hK
    unfold ptr
    gi_wp2
    exact hK
  case body =>
    rintro l pre x W ⟨hpre, hK⟩ _
    obtain ⟨y, A1, c1, A2, c2, hy, q0, q1, -, -, -⟩ := hK.ring.at_ (k := x.1 - 1) (by have := x.2; omega)
    have hxe : x.1 - 1 + 1 = x.1 := by have := x.2; omega
    rw [hxe] at q0 q1
    have hyn : noteAt ns x = y := noteAt_get hy hxe.symm
    have t0 := hK.tx.of 0 _ rfl
    have r0 := hK.res.of 0 _ rfl
    have rf := hK.res.2.1 0
    have HK := Lib.hid hK
    have HP := Lib.hid hpre
    have HY := Lib.hid hyn
    clear hK hpre hyn hy hxe
    have hmix : Try.prog.follows .mixedOrders = true := by kernel_rfl
    by_cases h1 : y.tx = tx
    · have e1 : (y.tx == tx) = true := by simp [h1]
      by_cases h2 : y.kind = 4
      · have e2 : (y.kind != 4) = false := by simp [h2]
        have HH : Hid (hitK tx (noteAt ns x) = false) := Lib.hid (by rw [HY.out]; unfold hitK; simp [h2])
        clear h1 h2
        gi_wp2
        gi_region_with_o (fail)
        all_goals gi_wp2
        all_goals exact ⟨KeepsOthers.drew _, (Below.refl _ _).drew, snocAll HP.out HH.out, HK.out.below (by omega) hlt hBw (Below.refl _ _).drew⟩
      · have e2 : (y.kind != 4) = true := by simp [h2]
        have HH : Hid (hitK tx (noteAt ns x) = true) := Lib.hid (by rw [HY.out]; unfold hitK; simp [h1, h2])
        clear h1 h2
        gi_wp2
        gi_region_with_o (fail)
        all_goals gi_wp2
        all_goals exact ⟨(KeepsOthers.drew _).trans (KeepsOthers.setCell _ _ _), rfl, pre, x, rfl, HP.out, HH.out, by rw [HY.out]; exact (HK.out.below (by omega) hlt hBw (Below.refl _ _).drew).put hlt hBw _⟩
    · have e1 : (y.tx == tx) = false := by simp [h1]
      have HH : Hid (hitK tx (noteAt ns x) = false) := Lib.hid (by rw [HY.out]; unfold hitK; simp [h1])
      clear h1
      gi_wp2
      gi_region_with_o (fail)
      all_goals gi_wp2
      all_goals exact ⟨KeepsOthers.drew _, (Below.refl _ _).drew, snocAll HP.out HH.out, HK.out.below (by omega) hlt hBw (Below.refl _ _).drew⟩
  case done =>
    rintro D ys W hD rfl ⟨hpre, hK⟩ hDf
    have r0 := hK.res.of 0 _ rfl
    have rf := hK.res.2.1 0
    have HP := Lib.hid (last_none hpre)
    have HK := Lib.hid hK
    have HD := Lib.hid hDf
    clear hpre hK hDf
    gi_wp2
    have hD' := (KeepsOthers.setCell W ⟨w.heap.size + 1 + 1, 0, none⟩ (.int .i64 0)).same D _ HD.out rfl
    refine ⟨by simp, .inl ⟨_, _, rfl, run_takeDeferred hD', ?_⟩⟩
    have hc5 := cell_kept ((HK.out.put hlt hBw 0).res.of 0 _ rfl) (grownBy_putObj' _ D (.deferred none)) (fun r e => by cases e; exact ⟨_, hD', rfl⟩)
    refine ⟨.int .i64 0, ?_, by rw [HP.out], (HK.out.put hlt hBw 0).bel.trans (belowK_b (w := w) (Nat.le_refl _) _ D _ _ (by omega) hD' rfl rfl)⟩
    simp [results, Try.f62, go_sem, hc5]
  case stop =>
    rintro D c pre W hD hpre ⟨rfl, p, x, rfl, hp, hx, hK⟩ hDf
    have HP := Lib.hid (last_at hpre hp hx)
    have HK := Lib.hid hK
    have HD := Lib.hid hDf
    clear hpre hp hx hK hDf
    gi_wp2
    refine ⟨by simp, .inl ⟨_, _, rfl, run_takeDeferred HD.out, ?_⟩⟩
    have hc5 := cell_kept (HK.out.res.of 0 _ rfl) (grownBy_putObj' _ D (.deferred none)) (fun r e => by cases e; exact ⟨_, HD.out, rfl⟩)
    refine ⟨.int .i64 (noteAt ns x).kind, ?_, by rw [HP.out], HK.out.bel.trans (belowK_b (w := w) (Nat.le_refl _) W D _ _ (by omega) HD.out rfl rfl)⟩
    simp [results, Try.f62, go_sem, hc5]

/-- The same, outside a fence. -/
theorem lastKind_any (w : World) (B : Nat) (L : List Nat) (ns : List Note) (tx : Int) (hR : Ring w B L ns) :
    Calls Try.prog 62 #[.agg #[ptr (at_ L 0)], .int .i64 tx] w fun e W' => e = .returned (.int .i64 (lastK ns tx)) ∧ Below w.heap.size w W' :=
  (callsIn_wide (n := 3)).1 (lastKind_in _ _ trivial trivial trivial rfl (by omega) w B L ns tx hR)

end Go.Proofs.Ytkamlibfcakblaa

/- What owns lies in blocks of cells alone: no book-keeping of a walk turns it. Nothing of the program. -/
namespace Go.Proofs.Ytkamlibfcakblaa
open Go.RowKit

/-- A block of cells. -/
def CellsAt (w : World) (b : Nat) : Prop := ∃ (ca : Array Value) (ta : TypeId) (fr : Nat × Nat), w.heap[b]? = some (.cells ca ta fr)
theorem CellsAt.keep {w w' : World} {b : Nat} (h : CellsAt w b) (hk : w'.heap[b]? = w.heap[b]?) : CellsAt w' b := by
  obtain ⟨ca, ta, fr, h⟩ := h; exact ⟨ca, ta, fr, hk.trans h⟩
/-- What is owned lies in blocks of cells. -/
def Sh.Tight {α : Type} (A : Sh α) : Prop := ∀ w S cs x, A.own w S cs x → A.own w (fun b => S b ∧ CellsAt w b) cs x
theorem Sh.Own.tight {α : Type} {A : Sh α} (hA : A.Tight) {e : TypeId} {w : World} {S : Nat → Prop} {v : Value} {xs : List α} (h : A.Own e w S v xs) : A.Own e w (fun b => S b ∧ CellsAt w b) v xs := by
  obtain ⟨C, F, h1, h2, h3, h4⟩ := h
  refine ⟨C, fun j b => F j b ∧ CellsAt w b, h1, fun g hg => ⟨h2 g hg, ?_⟩, fun j x hx => ⟨hA _ _ _ _ (h3 j x hx).1, fun b hb => ⟨⟨((h3 j x hx).2 b hb.1).1, hb.2⟩, ((h3 j x hx).2 b hb.1).2⟩⟩, fun i j b hij hj h h' => h4 i j b hij hj h.1 h'.1⟩
  rcases h1.2 with ⟨rfl, -⟩ | ⟨g', cap, cur, rfl, _, hgg, _⟩
  · cases hg
  · obtain rfl := Option.some.inj hg
    exact ⟨_, _, _, hgg⟩
theorem tight_int : Sh.int.Tight := fun _ _ _ _ h => h
theorem tight_bool : Sh.bool.Tight := fun _ _ _ _ h => h
theorem tight_str (mk : Int → ByteArray) : (Sh.str mk).Tight := fun _ _ _ _ h => h
theorem Sh.Tight.pair {α β : Type} {A : Sh α} {B : Sh β} (hA : A.Tight) (hB : B.Tight) : (A.pair B).Tight := by
  rintro w S cs x ⟨c1, c2, S1, S2, rfl, h1, h2, s1, s2, d⟩
  exact ⟨c1, c2, _, _, rfl, hA _ _ _ _ h1, hB _ _ _ _ h2, fun b h => ⟨s1 b h.1, h.2⟩, fun b h => ⟨s2 b h.1, h.2⟩, fun b h h' => d b h.1 h'.1⟩
theorem Sh.Tight.conv {α β : Type} {A : Sh α} (hA : A.Tight) (f : β → α) (g : α → β) (hg : f (g A.z) = A.z) : (A.conv f g hg).Tight := fun w S cs x h => hA w S cs (f x) h
theorem Sh.Tight.sl {α : Type} {A : Sh α} (hA : A.Tight) (e : TypeId) (hb : A.base ≤ 16) : (A.sl e hb).Tight := by
  rintro w S cs xs ⟨v, rfl, h⟩
  exact ⟨v, rfl, h.tight hA⟩
/-- What lies in blocks of cells from n on stays where a block that is none of cells turns. -/
theorem Sh.Own.turned {α : Type} {A : Sh α} (hA : A.Tight) {e : TypeId} {w w' : World} {row : Option Nat} {S : Nat → Prop} {v : Value} {xs : List α} (h : A.Own e w S v xs) (hg : w.grownBy w' row) (hr : ∀ r, row = some r → ∃ o : Obj, w.heap[r]? = some o ∧ o.isCells = false) : A.Own e w' S v xs := by
  refine ((h.tight hA).keep fun b hb hlt => hg.block b hlt fun e => ?_).mono fun b hb => hb.1
  obtain ⟨o, ho, hc⟩ := hr b e.symm
  obtain ⟨ca, ta, fr, hcell⟩ := hb.2
  rw [hcell] at ho
  cases ho
  simp [Obj.isCells] at hc

end Go.Proofs.Ytkamlibfcakblaa

/- A region that draws its order within a round of a range over a function, in the fence that asks nothing: shown as outside a round. Nothing of the program. -/
namespace Go.Proofs.Ytkamlibfcakblaa

section
variable {P : Program} {md : Region.Mode} {ops : Array Oper} {Q : Exit → Act → World → Prop} {S : World → Prop} {l n : Nat}
theorem callsIn_round {f : FuncId} {args : Array Value} {w : World} {R : Ending → World → Prop} (h : Calls P f args w R) : CallsIn (Fence.wide.inRound l) n P f args w R :=
  show CallsIn Fence.wide n P f args w R from callsIn_wide.2 h
theorem rowsIn_round {row : String} {args : Array Value} {w : World} {R : Value → World → Prop} (h : Rows P row args w R) : RowsIn (Fence.wide.inRound l) n P row args w R :=
  fun c cs _ => let ⟨v, w', r, s⟩ := h c cs; ⟨v, w', r, show StepsIn (Machine.fenced P Fence.wide) P _ _ from stepsIn_wide.2 s⟩
theorem wpIn_of_wp {o : Oper} {a : Act} {w : World} {K : Act → World → Prop} (hd : ∀ c, o.op ≠ .defer c) (h : o.wp P a w K Q) : o.wpIn (Fence.wide.inRound l) n P a w K Q := by
  unfold Oper.wp at h
  unfold Oper.wpIn
  refine ⟨fun _ _ => trivial, ?_⟩
  rw [Oper.semAt_eq _ _ _ hd]
  generalize (execOp a.eval o).run P w = r at *
  have hdep : (Fence.wide.inRound l).depth.isSome = true → 1 ≤ n := fun h => by simp [Fence.wide] at h
  cases r with
  | ok x w' =>
    cases x <;> simp only [Oper.upon, Oper.uponIn] at h ⊢ <;>
      first
        | exact h
        | exact h.elim
        | exact ⟨hdep, callsIn_round h⟩
        | exact ⟨hdep, rowsIn_round h⟩
  | halt x w' => cases x <;> simp only [Oper.upon, Oper.uponIn] at h ⊢ <;> exact h
/-- No operation defers. -/
def noDefer (ops : Array Oper) : Bool := ops.all fun o => match o.op with | .defer _ => false | _ => true
theorem noDefer_at (h : noDefer ops = true) {i : Nat} {o : Oper} (ho : ops[i]? = some o) : ∀ c, o.op ≠ .defer c := by
  intro c hc
  obtain ⟨hi, rfl⟩ := Array.getElem?_eq_some_iff.1 ho
  have := Array.all_eq_true.1 h i hi
  rw [hc] at this
  cases this
theorem wpAnyIn_of (hd : noDefer ops = true) (hQ : ¬ LetsOut Q) : ∀ (fuel : Nat) (li : Array Bool) (a : Act) (w : World), wpAny P md ops Q fuel li a w → wpAnyIn (Fence.wide.inRound l) n P md ops Q fuel li a w
  | 0, _, _, _, h => h
  | fuel + 1, li, a, w, h => ⟨h.1, fun i hi => by
      have h2 := h.2 i hi
      unfold wpOp at h2
      unfold wpOpIn
      cases ho : ops[i]? with
      | none => rw [ho] at h2; exact wpAnyIn_of hd hQ fuel _ a w h2
      | some o =>
        rw [ho] at h2
        dsimp only at h2 ⊢
        split
        · rename_i hw
          rw [if_pos hw] at h2
          rcases h2 with h2 | h2
          · exact Oper.wpIn_mono (fun a w => wpAnyIn_of hd hQ fuel _ a w) (wpIn_of_wp (noDefer_at hd ho) h2)
          · exact absurd h2.2 hQ
        · rename_i hw
          rw [if_neg hw] at h2
          exact ⟨fun _ _ => trivial, wpAnyIn_of hd hQ fuel _ _ w h2⟩⟩
theorem region_l_in {F : Fence} (hF : F = Fence.wide) {id : Nat} {a : Act} {w : World} (z : Nat) (hm : P.follows .mixedOrders = true) (hd : noDefer ops = true) (hQ : ¬ LetsOut Q) (hS : S w.drew)
    (h : S w.drew → wpAnyL P .any ops Q S z ops.size (Array.replicate ops.size false) a w.drew) : (Code.region id ops true).wpIn (F.inRound l) n P Q a w := by
  subst hF
  exact wpIn_region_any hm (wpAnyIn_of hd hQ _ _ _ _ (wpAny_of_last _ _ _ _ (h hS)))
end

end Go.Proofs.Ytkamlibfcakblaa
