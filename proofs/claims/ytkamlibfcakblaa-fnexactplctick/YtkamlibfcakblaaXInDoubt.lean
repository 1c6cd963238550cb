/- The iterator of the notes in doubt: what it hands to the body of a loop. -/
import Derived.Test.YtkamlibfcakblaaXGoes
import Derived.Test.YtkamlibfcakblaaXDiskOf
import Derived.Test.YtkamlibfcakblaaXTight
namespace Go.Proofs.Ytkamlibfcakblaa
open Go.RowKit Go.Shelf

attribute [local go_sem] Oper.semAt_some

theorem region_h_in {P : Program} {ops : Array Oper} {Q : Exit → Act → World → Prop} {S : World → Prop} {l n : Nat} {F : Fence} (hF : F = Fence.wide) {id : Nat} {a : Act} {w : World} (hm : P.follows .mixedOrders = true) (hd : noDefer ops = true) (hQ : ¬ LetsOut Q) (hS : S w.drew)
    (h : S w.drew → wpAnyH P .any ops Q S ops.size (Array.replicate ops.size false) a w.drew) : (Code.region id ops true).wpIn (F.inRound l) n P Q a w := by
  subst hF
  exact wpIn_region_any hm (wpAnyIn_of hd hQ _ _ _ _ (wpAny_of_held _ _ _ _ (h hS)))
theorem roundIn_any {F : Fence} (hF : F = Fence.wide) {n n' : Nat} {P : Program} {l l' : Nat} {f : FuncId} {tmps : Array Value} {assign body : Code} {w : World} {R : Ending → World → Prop}
    (h : RoundIn Fence.wide n P l f tmps assign body w R) : RoundIn (F.inRound l') n' P l f tmps assign body w R := by
  subst hF
  exact ⟨h.1, fun c cs _ => h.2 c cs (room_wide _)⟩

set_option maxRecDepth 100000 in
theorem inDoubt_in (F : Fence) (d : Nat) (hg : F.fn 71) (hro : F.round = none) (m : Nat) (w : World) :
    CallsIn F d Try.prog 71 #[.agg #[ptr m]] w fun e w' => e = .returned (.func (.func 112) #[] #[ptr w.heap.size]) ∧ w' = w.alloc (.cells #[ptr m] 79) := by
  unfold ptr
  refine callsIn_of_wp Try.func71 rfl hg ?_ hro
  simp only [Try.ntmps71, List.size_toArray, List.length_cons, List.length_nil, Nat.reduceAdd, Nat.reduceSub, Array.replicate_succ, Array.replicate_zero, List.push_toArray, List.append_toArray, List.nil_append, List.cons_append]
  gi_wp2
  go_ret
  exact ⟨rfl, rfl⟩

/-- What a link of a ring holds. -/
def noteV (w : World) (L : List Nat) (i : Nat) : Value :=
  .agg #[(w.cell? ⟨at_ L i, 0, none⟩).getD undef, (w.cell? ⟨at_ L i, 1, none⟩).getD undef, (w.cell? ⟨at_ L i, 2, none⟩).getD undef, (w.cell? ⟨at_ L i, 3, none⟩).getD undef]

/-- What holds while it hands over: who is asked, the marker, the ring, and that the links hold what they did. -/
structure IdW (w : World) (n0 Y0 l Bl B : Nat) (L : List Nat) (ns : List Note) (W : World) : Prop where
  yb : Held W Y0 [.func (.yield l) #[] #[]]
  mrk : W.cell? ⟨Bl, 0, none⟩ = some (.pointer (some ⟨at_ L 0, 0, none⟩))
  ring : Ring W B L ns
  same : ∀ i, i < L.length → W.heap[at_ L i]? = w.heap[at_ L i]?
  size : n0 ≤ W.heap.size
theorem IdW.below {w : World} {n0 Y0 l Bl B : Nat} {L : List Nat} {ns : List Note} {W W' : World} (h : IdW w n0 Y0 l Bl B L ns W) (hY : Y0 < n0) (hBl : Bl < n0) (hR : ∀ i, i < L.length → at_ L i < n0) (hB : B ≤ n0) (hb : Below n0 W W') : IdW w n0 Y0 l Bl B L ns W' :=
  ⟨h.yb.below hb hY, (hb.cell (p := ⟨Bl, 0, none⟩) hBl).trans h.mrk, h.ring.below hb hB hR, fun i hi => (hb.block _ (hR i hi)).trans (h.same i hi), Nat.le_trans h.size hb.size⟩
theorem IdW.outs {w : World} {n0 Y0 l Bl B : Nat} {L : List Nat} {ns : List Note} {S : Nat → Prop} {W W' : World} (h : IdW w n0 Y0 l Bl B L ns W) (hY : ¬ S Y0) (hBl : ¬ S Bl) (hR : ∀ i, i < L.length → ¬ S (at_ L i)) (hB : ∀ b, b < B → ¬ S b) (k : Outs S W W') : IdW w n0 Y0 l Bl B L ns W' :=
  ⟨h.yb.outs k hY, k.cell hBl h.mrk, h.ring.outs k hB hR, fun i hi => (k.block _ (h.ring.lt i hi) (hR i hi)).trans (h.same i hi), Nat.le_trans h.size k.size⟩
theorem noteV_at {w W : World} {L : List Nat} {i : Nat} (h : W.heap[at_ L i]? = w.heap[at_ L i]?) {a b c d : Value} (h0 : W.cell? ⟨at_ L i, 0, none⟩ = some a) (h1 : W.cell? ⟨at_ L i, 1, none⟩ = some b) (h2 : W.cell? ⟨at_ L i, 2, none⟩ = some c) (h3 : W.cell? ⟨at_ L i, 3, none⟩ = some d) :
    noteV w L i = .agg #[a, b, c, d] := by
  have e : ∀ k, w.cell? ⟨at_ L i, k, none⟩ = W.cell? ⟨at_ L i, k, none⟩ := fun k => by unfold World.cell?; rw [h]
  unfold noteV
  rw [e, e, e, e, h0, h1, h2, h3]
  rfl

set_option maxRecDepth 100000 in
set_option maxHeartbeats 4000000 in
theorem inDoubt1_goes (d : Nat) (hd : 4 ≤ d) (Bl B : Nat) (S : Nat → Prop) (L : List Nat) (ns : List Note) (w : World) (hBl0 : Bl < w.heap.size) (hBl' : ¬ S Bl) (hBl : w.cell? ⟨Bl, 0, none⟩ = some (ptr (at_ L 0))) (hR : Ring w B L ns) (hLn : ∀ i, i < L.length → ¬ S (at_ L i)) (hBn : ∀ b, b < B → ¬ S b) (hS : ∀ b, S b → b < w.heap.size) :
    Goes Fence.wide d Try.prog 112 #[ptr Bl] (fun x : Spot ns.length => #[noteV w L x.1]) S ((upto ns.length ns.length (Nat.le_refl _)).filter fun x => openB ns (noteAt ns x)) ns.length w := by
  intro l J W hb hJ hs hY
  obtain ⟨F, hF⟩ : ∃ F, F = Fence.wide := ⟨_, rfl⟩
  have hro : F.round = none := by rw [hF]; rfl
  have hfn : ∀ f, F.fn f := by rw [hF]; exact fun _ => trivial
  have hd1 : 1 ≤ d := by omega
  have hd3 : 1 ≤ d - 1 - 1 := by omega
  have HY := Lib.hid hY
  have HJ := Lib.hid hJ
  have HJs := Lib.hid hs
  clear hY hJ hs
  rw [← hF]
  have HFw := Lib.hid hF
  clear hF
  have HBi := Lib.hid (after_in F (d - 1) (hfn _) hro (at_ L 0) (at_ L 0))
  have hB3 : Below W.heap.size W (((W.alloc (.cells #[.func (.yield l) #[] #[]] 83)).alloc (.cells #[.pointer (some ⟨at_ L 0, 0, none⟩)] 79)).alloc (.cells #[.pointer (some ⟨at_ L 0, 0, none⟩)] 77)) := belowThree _ _ _ _
  have hz3 : (((W.alloc (.cells #[.func (.yield l) #[] #[]] 83)).alloc (.cells #[.pointer (some ⟨at_ L 0, 0, none⟩)] 79)).alloc (.cells #[.pointer (some ⟨at_ L 0, 0, none⟩)] 77)).heap.size = W.heap.size + 1 + 1 + 1 := by simp
  have hwW := hb.size
  have hlt : ∀ i, i < L.length → at_ L i < W.heap.size := fun i hi => by have := hR.lt i hi; omega
  have hBw : B ≤ W.heap.size := by have := hR.size; omega
  have HK : Hid (IdW w (W.heap.size + 1 + 1 + 1) W.heap.size l Bl B L ns (((W.alloc (.cells #[.func (.yield l) #[] #[]] 83)).alloc (.cells #[.pointer (some ⟨at_ L 0, 0, none⟩)] 79)).alloc (.cells #[.pointer (some ⟨at_ L 0, 0, none⟩)] 77))
      ∧ Held (((W.alloc (.cells #[.func (.yield l) #[] #[]] 83)).alloc (.cells #[.pointer (some ⟨at_ L 0, 0, none⟩)] 79)).alloc (.cells #[.pointer (some ⟨at_ L 0, 0, none⟩)] 77)) (W.heap.size + 1) [.pointer (some ⟨at_ L 0, 0, none⟩)]
      ∧ Held (((W.alloc (.cells #[.func (.yield l) #[] #[]] 83)).alloc (.cells #[.pointer (some ⟨at_ L 0, 0, none⟩)] 79)).alloc (.cells #[.pointer (some ⟨at_ L 0, 0, none⟩)] 77)) (W.heap.size + 1 + 1) [.pointer (some ⟨at_ L 0, 0, none⟩)]) := Lib.hid
    ⟨⟨((Held.new W #[.func (.yield l) #[] #[]] 83).after _).after _, ((hb.trans (hB3.mono hwW)).cell (p := ⟨Bl, 0, none⟩) hBl0).trans hBl, hR.onward (hb.trans (hB3.mono hwW)), fun i hi => (hb.trans (hB3.mono hwW)).block _ (hR.lt i hi), by simp⟩,
      ((Held.new (W.alloc (.cells #[.func (.yield l) #[] #[]] 83)) #[.pointer (some ⟨at_ L 0, 0, none⟩)] 79).after _).lit (by simp),
      (Held.new ((W.alloc (.cells #[.func (.yield l) #[] #[]] 83)).alloc (.cells #[.pointer (some ⟨at_ L 0, 0, none⟩)] 79)) #[.pointer (some ⟨at_ L 0, 0, none⟩)] 77).lit (by simp)⟩
  have hm0 : (W.alloc (.cells #[.func (.yield l) #[] #[]] 83)).cell? ⟨Bl, 0, none⟩ = some (.pointer (some ⟨at_ L 0, 0, none⟩)) := ((hb.trans ((belowOne W _).mono hwW)).cell (p := ⟨Bl, 0, none⟩) hBl0).trans hBl
  have HZ := Lib.hid hz3
  have hlen := hR.len
  have HSn := Lib.hid (And.intro hLn (And.intro hBn hS))
  have HBe := Lib.hid hB3
  have HJ0 := Lib.hid (fun X (hX : Below W.heap.size W X) => HJs.out X hX)
  clear hBl hR hLn hBn hS hz3 hB3 hb
  unfold ptr at HBi ⊢
  refine callsIn_of_wp_marks Try.func112 rfl (hfn _) ?_ hro
  simp only [Try.ntmps112, List.size_toArray, List.length_cons, List.length_nil, Nat.reduceAdd, Nat.reduceSub, Array.replicate_succ, Array.replicate_zero, List.push_toArray, List.append_toArray, List.nil_append, List.cons_append]
  gi_wp2_with (gi_at_call 81; refine (HBi.out _).mono ?_; rintro e w' ⟨rfl, rfl⟩)
  generalize (((W.alloc (.cells #[.func (.yield l) #[] #[]] 83)).alloc (.cells #[.pointer (some ⟨at_ L 0, 0, none⟩)] 79)).alloc (.cells #[.pointer (some ⟨at_ L 0, 0, none⟩)] 77)) = W0 at *
  have hz0 : W.heap.size + 1 + 1 + 1 = W0.heap.size := HZ.out.symm
  have hSlt : ∀ b, S b → b < W.heap.size := fun b hb => by have := HSn.out.2.2 b hb; omega
  refine wpIn_goes (f := 119) (lb := #[.pointer (some ⟨W.heap.size + 1 + 1, 0, none⟩), .pointer (some ⟨W.heap.size + 1, 0, none⟩)]) hro (by omega) rfl (hfn _) (enters_of Try.func119 (by kernel_rfl) rfl)
    (after_goes F (d - 1) (hfn _) hro (by omega) (W.heap.size + 1 + 1) (W.heap.size + 1) B S L ns W0 (by omega) (by omega) (fun h => by have := hSlt _ h; omega) (HK.out.2.2.of 0 _ rfl) (HK.out.2.1.of 0 _ rfl) HK.out.1.ring HSn.out.1 HSn.out.2.1) (Below.refl _ _) ?hps
    (fun t pre Z => J t (pre.filter fun x => openB ns (noteAt ns x)) Z ∧ IdW w W0.heap.size W.heap.size l Bl B L ns Z)
    (fun t => fun pre A A' row hA hg hr => ⟨HJ.out t _ A A' row hA.1 hg (fun r e => by obtain ⟨h1, o, h2⟩ := hr r e; exact ⟨by omega, o, h2⟩), hA.2.below (by omega) (by omega) (fun i hi => by have := hlt i hi; omega) (by omega) ((Below.refl _ A).grown hg hA.2.size (fun k e => (hr k e).1))⟩)
    (fun X hX => ⟨HJ0.out X (HBe.out.trans (hX.mono (by omega))), (hz0 ▸ HK.out.1).below (by omega) (by omega) (fun i hi => by have := hlt i hi; omega) (by omega) hX⟩)
    (fun t x b Z => b = { tmps := #[.func (.yield l) #[] #[], .pointer (some ⟨Bl, 0, none⟩), .pointer (some ⟨W.heap.size, 0, none⟩), .pointer (some ⟨at_ L x.1, 0, none⟩), .agg #[.pointer (some ⟨at_ L 0, 0, none⟩)], .pointer (some ⟨Bl, 0, none⟩), .pointer (some ⟨at_ L 0, 0, none⟩), .func (.func 119) #[] #[.pointer (some ⟨W.heap.size + 1 + 1, 0, none⟩), .pointer (some ⟨W.heap.size + 1, 0, none⟩)], .pointer (some ⟨at_ L x.1, 0, none⟩), undef, undef, undef, undef, undef, undef, undef, undef, undef, undef, undef, undef, undef, undef, undef, undef, undef, undef, undef, undef, undef, undef, undef], defers := [] })
    (fun t x b s A A' row h _ _ => h) ?assign ?body ?done
  case hps => exact fun _ => rfl
  case assign =>
    intro l' t pre x Z ht hI
    have HI := Lib.hid hI
    clear hI
    unfold ptr
    gi_wp2
    exact ⟨Calm.refl _ _, HI.out, trivial⟩
  case body =>
    rintro l' t pre x b Z ht ⟨hJt, hK⟩ hpn rfl
    obtain ⟨y, A1, c1, A2, c2, hy, q0, q1, q2, q3, hrel⟩ := hK.ring.at_ (k := x.1 - 1) (by have := x.2; omega)
    have hxe : x.1 - 1 + 1 = x.1 := by have := x.2; omega
    rw [hxe] at q0 q1 q2 q3
    have hyn : noteAt ns x = y := noteAt_get hy hxe.symm
    have hyl : x.1 < L.length := by have := x.2; omega
    have hxl := hlt x.1 hyl
    have hZs := hK.size
    have m0 := hK.mrk
    have HNV := Lib.hid (noteV_at (hK.same x.1 hyl) q0 q1 q2 q3)
    have HLk := Lib.hid (lastKind_any Z.drew B L ns y.tx (hK.ring.below (Below.refl _ _).drew hBw (fun i hi => hlt i hi)))
    have HJt := Lib.hid hJt
    have HKz := Lib.hid hK
    have HYn := Lib.hid hyn
    have hIz : ∀ X, Below Z.heap.size Z X → openB ns y = false → J t ((pre ++ [x]).filter fun x => openB ns (noteAt ns x)) X ∧ IdW w W0.heap.size W.heap.size l Bl B L ns X := fun X hX hf => ⟨by
        rw [List.filter_append, show [x].filter (fun x => openB ns (noteAt ns x)) = [] from by simp [HYn.out, hf], List.append_nil]
        exact HJ.out t _ Z X none HJt.out ⟨hX.os, hX.tape, hX.output, hX.size, fun k hk _ => hX.block k hk⟩ (fun r e => by cases e), HKz.out.below (by omega) (by omega) (fun i hi => by have := hlt i hi; omega) (by omega) (hX.mono hZs)⟩
    have HIz := Lib.hid hIz
    clear hJt hK hyn hy hxe hrel hIz
    by_cases h1 : y.kind = 1
    · have hk1 : y.kind = 1 := h1
      rw [h1] at q0
      have k0 : Z.drew.cell? ⟨Bl, 0, none⟩ = some (.pointer (some ⟨at_ L 0, 0, none⟩)) ∧ Z.drew.cell? ⟨at_ L x.1, 0, none⟩ = some (.int .i64 1) ∧ Z.drew.cell? ⟨at_ L x.1, 1, none⟩ = some (.int .i64 y.tx) := ⟨m0, q0, q1⟩
      by_cases h2 : lastK ns y.tx = 1
      · have HO : Hid (openB ns y = true) := Lib.hid (openB_yes h1 h2)
        have HL := Lib.hid h2
        clear h1 h2
        gi_wp2
        refine region_h_in HFw.out (S := (fun w' => w'.cell? ⟨Bl, 0, none⟩ = some (.pointer (some ⟨at_ L 0, 0, none⟩)) ∧ w'.cell? ⟨at_ L x.1, 0, none⟩ = some (.int .i64 1) ∧ w'.cell? ⟨at_ L x.1, 1, none⟩ = some (.int .i64 y.tx))) (by kernel_rfl) (by kernel_rfl) (by rintro ⟨_, _, h⟩; exact h) ?hSra (fun hHeldra => ?stra)
        case hSra => (first | (dsimp only; (first | with_reducible exact k1 | exact k0)) | (first | with_reducible exact k1 | exact k0))
        refine take_first 0 9 (v := ?vra_1) rfl rfl (by kernel_rfl) (by kernel_rfl) (by kernel_rfl) (fun _ _ _ h => h) (by rfl) ?yra_1 (by assumption) ?rra_1
        case yra_1 => (intro w hSw; (try dsimp only at hSw); go_simp; (try with_reducible rfl))
        simp only [Act.put, List.setIfInBounds_toArray, List.set_cons_zero, List.set_cons_succ]
        refine take_first 1 10 (v := ?vra_2) rfl rfl (by kernel_rfl) (by kernel_rfl) (by kernel_rfl) (fun _ _ _ h => h) (by rfl) ?yra_2 (by assumption) ?rra_2
        case yra_2 => (intro w hSw; (try dsimp only at hSw); go_simp; (try with_reducible rfl))
        simp only [Act.put, List.setIfInBounds_toArray, List.set_cons_zero, List.set_cons_succ]
        refine take_first 2 11 (v := ?vra_3) rfl rfl (by kernel_rfl) (by kernel_rfl) (by kernel_rfl) (fun _ _ _ h => h) (by rfl) ?yra_3 (by assumption) ?rra_3
        case yra_3 => (intro w hSw; (try dsimp only at hSw); go_simp; (try with_reducible rfl))
        simp only [Act.put, List.setIfInBounds_toArray, List.set_cons_zero, List.set_cons_succ]
        refine take_first 3 12 (v := ?vra_4) rfl rfl (by kernel_rfl) (by kernel_rfl) (by kernel_rfl) (fun _ _ _ h => h) (by rfl) ?yra_4 (by assumption) ?rra_4
        case yra_4 => (intro w hSw; (try dsimp only at hSw); go_simp; (try with_reducible rfl))
        simp only [Act.put, List.setIfInBounds_toArray, List.set_cons_zero, List.set_cons_succ]
        refine take_first 4 13 (v := ?vra_5) rfl rfl (by kernel_rfl) (by kernel_rfl) (by kernel_rfl) (fun _ _ _ h => h) (by rfl) ?yra_5 (by assumption) ?rra_5
        case yra_5 => (intro w hSw; (try dsimp only at hSw); go_simp; (try with_reducible rfl))
        simp only [Act.put, List.setIfInBounds_toArray, List.set_cons_zero, List.set_cons_succ]
        refine take_first 5 14 (v := ?vra_6) rfl rfl (by kernel_rfl) (by kernel_rfl) (by kernel_rfl) (fun _ _ _ h => h) (by rfl) ?yra_6 (by assumption) ?rra_6
        case yra_6 => (intro w hSw; (try dsimp only at hSw); go_simp; (try with_reducible rfl))
        simp only [Act.put, List.setIfInBounds_toArray, List.set_cons_zero, List.set_cons_succ]
        refine take_first 6 15 (v := ?vra_7) rfl rfl (by kernel_rfl) (by kernel_rfl) (by kernel_rfl) (fun _ _ _ h => h) (by rfl) ?yra_7 (by assumption) ?rra_7
        case yra_7 => (intro w hSw; (try dsimp only at hSw); go_simp; (try with_reducible rfl))
        simp only [Act.put, List.setIfInBounds_toArray, List.set_cons_zero, List.set_cons_succ]
        refine take_first 7 16 (v := ?vra_8) rfl rfl (by kernel_rfl) (by kernel_rfl) (by kernel_rfl) (fun _ _ _ h => h) (by rfl) ?yra_8 (by assumption) ?rra_8
        case yra_8 => (intro w hSw; (try dsimp only at hSw); go_simp; (try with_reducible rfl))
        simp only [Act.put, List.setIfInBounds_toArray, List.set_cons_zero, List.set_cons_succ]
        refine take_first 8 17 (v := ?vra_9) rfl rfl (by kernel_rfl) (by kernel_rfl) (by kernel_rfl) (fun _ _ _ h => h) (by rfl) ?yra_9 (by assumption) ?rra_9
        case yra_9 => (intro w hSw; (try dsimp only at hSw); go_simp; (try with_reducible rfl))
        simp only [Act.put, List.setIfInBounds_toArray, List.set_cons_zero, List.set_cons_succ]
        refine take_first 9 18 (v := ?vra_10) rfl rfl (by kernel_rfl) (by kernel_rfl) (by kernel_rfl) (fun _ _ _ h => h) (by rfl) ?yra_10 (by assumption) ?rra_10
        case yra_10 => (intro w hSw; (try dsimp only at hSw); go_simp; (try with_reducible rfl))
        simp only [Act.put, List.setIfInBounds_toArray, List.set_cons_zero, List.set_cons_succ]
        refine take_first 10 19 (v := ?vra_11) rfl rfl (by kernel_rfl) (by kernel_rfl) (by kernel_rfl) (fun _ _ _ h => h) (by rfl) ?yra_11 (by assumption) ?rra_11
        case yra_11 => (intro w hSw; (try dsimp only at hSw); go_simp; (try with_reducible rfl))
        simp only [Act.put, List.setIfInBounds_toArray, List.set_cons_zero, List.set_cons_succ]
        refine take_first 11 20 (v := ?vra_12) rfl rfl (by kernel_rfl) (by kernel_rfl) (by kernel_rfl) (fun _ _ _ h => h) (by rfl) ?yra_12 (by assumption) ?rra_12
        case yra_12 => (intro w hSw; (try dsimp only at hSw); go_simp; (try with_reducible rfl))
        simp only [Act.put, List.setIfInBounds_toArray, List.set_cons_zero, List.set_cons_succ]
        refine take_first 12 21 (v := ?vra_13) rfl rfl (by kernel_rfl) (by kernel_rfl) (by kernel_rfl) (fun _ _ _ h => h) (by rfl) ?yra_13 (by assumption) ?rra_13
        case yra_13 => (intro w hSw; (try dsimp only at hSw); go_simp; (try with_reducible rfl))
        simp only [Act.put, List.setIfInBounds_toArray, List.set_cons_zero, List.set_cons_succ]
        refine wpAnyH_ready (rs := [13]) (by kernel_rfl) (by simp) ?_
        refine AllReadyH.cons (o := _) rfl (fun Kra_14 hKra_14 => ?cra_14) ?mra_14
        case mra_14 => exact AllReadyH.nil
        go_simp
        refine HLk.out.mono ?_; rintro e w1 ⟨rfl, hb1⟩; rw [HL.out]; have HB1 := Lib.hid (show Below Z.heap.size Z w1 from (Below.refl _ Z).drew.trans hb1); have k1 := And.intro ((HB1.out.cell (p := ⟨Bl, 0, none⟩) (by show Bl < _; omega)).trans m0) (And.intro ((HB1.out.cell (p := ⟨at_ L x.1, 0, none⟩) (by show at_ L x.1 < _; omega)).trans q0) ((HB1.out.cell (p := ⟨at_ L x.1, 1, none⟩) (by show at_ L x.1 < _; omega)).trans q1)); clear hb1
        go_wp2_with fail
        refine hKra_14.out _ _ ?kra_14 (fun hHeldra_14 => ?dra_14)
        case kra_14 => (first | (dsimp only; (first | with_reducible exact k1 | exact k0)) | (first | with_reducible exact k1 | exact k0))
        clear hKra_14 Kra_14
        refine take_first 14 23 (v := ?vra_15) rfl rfl (by kernel_rfl) (by kernel_rfl) (by kernel_rfl) (fun _ _ _ h => h) (by rfl) ?yra_15 (by assumption) ?rra_15
        case yra_15 => (intro w hSw; (try dsimp only at hSw); go_simp; (try with_reducible rfl))
        simp only [Act.put, List.setIfInBounds_toArray, List.set_cons_zero, List.set_cons_succ]
        refine take_first 15 24 (v := ?vra_16) rfl rfl (by kernel_rfl) (by kernel_rfl) (by kernel_rfl) (fun _ _ _ h => h) (by rfl) ?yra_16 (by assumption) ?rra_16
        case yra_16 => (intro w hSw; (try dsimp only at hSw); go_simp; (try with_reducible rfl))
        simp only [Act.put, List.setIfInBounds_toArray, List.set_cons_zero, List.set_cons_succ]
        refine wpAnyH_done (by kernel_rfl) ?era _
        gi_wp2
        have hJ1 : J t (pre.filter fun x => openB ns (noteAt ns x)) w1.drew := HJ.out t _ Z w1.drew none HJt.out ⟨HB1.out.drew.os, HB1.out.drew.tape, HB1.out.drew.output, HB1.out.drew.size, fun k hk _ => HB1.out.drew.block k hk⟩ (fun r e => by cases e)
        have hK1 : IdW w W0.heap.size W.heap.size l Bl B L ns w1.drew := HKz.out.below (by omega) (by omega) (fun i hi => by have := hlt i hi; omega) (by omega) (HB1.out.drew.mono hZs)
        obtain ⟨fn, tmps, assign, body, hyq, hYR⟩ := HY.out t (pre.filter fun x => openB ns (noteAt ns x)) x w1.drew (by omega) hJ1 (Nat.lt_of_le_of_lt (List.length_filter_le _ _) hpn)
        rw [HNV.out, hk1] at hyq
        have y0 := hK1.yb.of 0 _ rfl
        have f0 := (HB1.out.drew.cell (p := ⟨at_ L x.1, 0, none⟩) (by show at_ L x.1 < _; omega)).trans q0
        have f1 := (HB1.out.drew.cell (p := ⟨at_ L x.1, 1, none⟩) (by show at_ L x.1 < _; omega)).trans q1
        have f2 := (HB1.out.drew.cell (p := ⟨at_ L x.1, 2, none⟩) (by show at_ L x.1 < _; omega)).trans q2
        have f3 := (HB1.out.drew.cell (p := ⟨at_ L x.1, 3, none⟩) (by show at_ L x.1 < _; omega)).trans q3
        have HFin := Lib.hid fun (W3 : World) (hJ3 : J t ((pre.filter fun x => openB ns (noteAt ns x)) ++ [x]) W3) (hC3 : Calm (fun b => S b ∨ t ≤ b) w1.drew W3) => (show Calm (fun b => S b ∨ t ≤ b) Z W3 ∧ J t ((pre ++ [x]).filter fun x => openB ns (noteAt ns x)) W3 ∧ IdW w W0.heap.size W.heap.size l Bl B L ns W3 from
          ⟨(Calm.below HB1.out.drew).trans hC3, by rw [List.filter_append, show [x].filter (fun x => openB ns (noteAt ns x)) = [x] from by simp [HYn.out, HO.out]]; exact hJ3,
            hK1.outs (fun h => h.elim (fun h => by have := hSlt _ h; omega) (fun h => by omega)) (fun h => h.elim hBl' (fun h => by omega)) (fun i hi h => h.elim (HSn.out.1 i hi) (fun h => by have := hlt i hi; omega)) (fun b hb h => h.elim (HSn.out.2.1 b hb) (fun h => by omega)) hC3.outs⟩)
        have HYR := Lib.hid hYR
        clear hJ1 hK1 hYR q0 q1 q2 q3 m0 k0 k1
        have hmix : Try.prog.follows .mixedOrders = true := by kernel_rfl
        gi_region_with_o (refine roundIn_any HFw.out (HYR.out.mono ?_); rintro e W3 ⟨rfl, hJ3, hC3⟩)
        all_goals gi_wp2
        all_goals exact HFin.out _ hJ3 hC3
      · have e2 : (lastK ns y.tx != 1) = true := by simp [h2]
        have HO : Hid (openB ns y = false) := Lib.hid (openB_last h2)
        obtain ⟨kk, hkk⟩ : ∃ kk, lastK ns y.tx = kk := ⟨_, rfl⟩
        rw [hkk] at e2
        have HL := Lib.hid hkk
        clear h1 h2 hkk
        gi_wp2
        refine region_h_in HFw.out (S := (fun w' => w'.cell? ⟨Bl, 0, none⟩ = some (.pointer (some ⟨at_ L 0, 0, none⟩)) ∧ w'.cell? ⟨at_ L x.1, 0, none⟩ = some (.int .i64 1) ∧ w'.cell? ⟨at_ L x.1, 1, none⟩ = some (.int .i64 y.tx))) (by kernel_rfl) (by kernel_rfl) (by rintro ⟨_, _, h⟩; exact h) ?hSrb (fun hHeldrb => ?strb)
        case hSrb => (first | (dsimp only; (first | with_reducible exact k1 | exact k0)) | (first | with_reducible exact k1 | exact k0))
        refine take_first 0 9 (v := ?vrb_1) rfl rfl (by kernel_rfl) (by kernel_rfl) (by kernel_rfl) (fun _ _ _ h => h) (by rfl) ?yrb_1 (by assumption) ?rrb_1
        case yrb_1 => (intro w hSw; (try dsimp only at hSw); go_simp; (try with_reducible rfl))
        simp only [Act.put, List.setIfInBounds_toArray, List.set_cons_zero, List.set_cons_succ]
        refine take_first 1 10 (v := ?vrb_2) rfl rfl (by kernel_rfl) (by kernel_rfl) (by kernel_rfl) (fun _ _ _ h => h) (by rfl) ?yrb_2 (by assumption) ?rrb_2
        case yrb_2 => (intro w hSw; (try dsimp only at hSw); go_simp; (try with_reducible rfl))
        simp only [Act.put, List.setIfInBounds_toArray, List.set_cons_zero, List.set_cons_succ]
        refine take_first 2 11 (v := ?vrb_3) rfl rfl (by kernel_rfl) (by kernel_rfl) (by kernel_rfl) (fun _ _ _ h => h) (by rfl) ?yrb_3 (by assumption) ?rrb_3
        case yrb_3 => (intro w hSw; (try dsimp only at hSw); go_simp; (try with_reducible rfl))
        simp only [Act.put, List.setIfInBounds_toArray, List.set_cons_zero, List.set_cons_succ]
        refine take_first 3 12 (v := ?vrb_4) rfl rfl (by kernel_rfl) (by kernel_rfl) (by kernel_rfl) (fun _ _ _ h => h) (by rfl) ?yrb_4 (by assumption) ?rrb_4
        case yrb_4 => (intro w hSw; (try dsimp only at hSw); go_simp; (try with_reducible rfl))
        simp only [Act.put, List.setIfInBounds_toArray, List.set_cons_zero, List.set_cons_succ]
        refine take_first 4 13 (v := ?vrb_5) rfl rfl (by kernel_rfl) (by kernel_rfl) (by kernel_rfl) (fun _ _ _ h => h) (by rfl) ?yrb_5 (by assumption) ?rrb_5
        case yrb_5 => (intro w hSw; (try dsimp only at hSw); go_simp; (try with_reducible rfl))
        simp only [Act.put, List.setIfInBounds_toArray, List.set_cons_zero, List.set_cons_succ]
        refine take_first 5 14 (v := ?vrb_6) rfl rfl (by kernel_rfl) (by kernel_rfl) (by kernel_rfl) (fun _ _ _ h => h) (by rfl) ?yrb_6 (by assumption) ?rrb_6
        case yrb_6 => (intro w hSw; (try dsimp only at hSw); go_simp; (try with_reducible rfl))
        simp only [Act.put, List.setIfInBounds_toArray, List.set_cons_zero, List.set_cons_succ]
        refine take_first 6 15 (v := ?vrb_7) rfl rfl (by kernel_rfl) (by kernel_rfl) (by kernel_rfl) (fun _ _ _ h => h) (by rfl) ?yrb_7 (by assumption) ?rrb_7
        case yrb_7 => (intro w hSw; (try dsimp only at hSw); go_simp; (try with_reducible rfl))
        simp only [Act.put, List.setIfInBounds_toArray, List.set_cons_zero, List.set_cons_succ]
        refine take_first 7 16 (v := ?vrb_8) rfl rfl (by kernel_rfl) (by kernel_rfl) (by kernel_rfl) (fun _ _ _ h => h) (by rfl) ?yrb_8 (by assumption) ?rrb_8
        case yrb_8 => (intro w hSw; (try dsimp only at hSw); go_simp; (try with_reducible rfl))
        simp only [Act.put, List.setIfInBounds_toArray, List.set_cons_zero, List.set_cons_succ]
        refine take_first 8 17 (v := ?vrb_9) rfl rfl (by kernel_rfl) (by kernel_rfl) (by kernel_rfl) (fun _ _ _ h => h) (by rfl) ?yrb_9 (by assumption) ?rrb_9
        case yrb_9 => (intro w hSw; (try dsimp only at hSw); go_simp; (try with_reducible rfl))
        simp only [Act.put, List.setIfInBounds_toArray, List.set_cons_zero, List.set_cons_succ]
        refine take_first 9 18 (v := ?vrb_10) rfl rfl (by kernel_rfl) (by kernel_rfl) (by kernel_rfl) (fun _ _ _ h => h) (by rfl) ?yrb_10 (by assumption) ?rrb_10
        case yrb_10 => (intro w hSw; (try dsimp only at hSw); go_simp; (try with_reducible rfl))
        simp only [Act.put, List.setIfInBounds_toArray, List.set_cons_zero, List.set_cons_succ]
        refine take_first 10 19 (v := ?vrb_11) rfl rfl (by kernel_rfl) (by kernel_rfl) (by kernel_rfl) (fun _ _ _ h => h) (by rfl) ?yrb_11 (by assumption) ?rrb_11
        case yrb_11 => (intro w hSw; (try dsimp only at hSw); go_simp; (try with_reducible rfl))
        simp only [Act.put, List.setIfInBounds_toArray, List.set_cons_zero, List.set_cons_succ]
        refine take_first 11 20 (v := ?vrb_12) rfl rfl (by kernel_rfl) (by kernel_rfl) (by kernel_rfl) (fun _ _ _ h => h) (by rfl) ?yrb_12 (by assumption) ?rrb_12
        case yrb_12 => (intro w hSw; (try dsimp only at hSw); go_simp; (try with_reducible rfl))
        simp only [Act.put, List.setIfInBounds_toArray, List.set_cons_zero, List.set_cons_succ]
        refine take_first 12 21 (v := ?vrb_13) rfl rfl (by kernel_rfl) (by kernel_rfl) (by kernel_rfl) (fun _ _ _ h => h) (by rfl) ?yrb_13 (by assumption) ?rrb_13
        case yrb_13 => (intro w hSw; (try dsimp only at hSw); go_simp; (try with_reducible rfl))
        simp only [Act.put, List.setIfInBounds_toArray, List.set_cons_zero, List.set_cons_succ]
        refine wpAnyH_ready (rs := [13]) (by kernel_rfl) (by simp) ?_
        refine AllReadyH.cons (o := _) rfl (fun Krb_14 hKrb_14 => ?crb_14) ?mrb_14
        case mrb_14 => exact AllReadyH.nil
        go_simp
        refine HLk.out.mono ?_; rintro e w1 ⟨rfl, hb1⟩; rw [HL.out]; have HB1 := Lib.hid (show Below Z.heap.size Z w1 from (Below.refl _ Z).drew.trans hb1); have k1 := And.intro ((HB1.out.cell (p := ⟨Bl, 0, none⟩) (by show Bl < _; omega)).trans m0) (And.intro ((HB1.out.cell (p := ⟨at_ L x.1, 0, none⟩) (by show at_ L x.1 < _; omega)).trans q0) ((HB1.out.cell (p := ⟨at_ L x.1, 1, none⟩) (by show at_ L x.1 < _; omega)).trans q1)); clear hb1
        go_wp2_with fail
        refine hKrb_14.out _ _ ?krb_14 (fun hHeldrb_14 => ?drb_14)
        case krb_14 => (first | (dsimp only; (first | with_reducible exact k1 | exact k0)) | (first | with_reducible exact k1 | exact k0))
        clear hKrb_14 Krb_14
        refine take_first 14 23 (v := ?vrb_15) rfl rfl (by kernel_rfl) (by kernel_rfl) (by kernel_rfl) (fun _ _ _ h => h) (by rfl) ?yrb_15 (by assumption) ?rrb_15
        case yrb_15 => (intro w hSw; (try dsimp only at hSw); go_simp; (try with_reducible rfl))
        simp only [Act.put, List.setIfInBounds_toArray, List.set_cons_zero, List.set_cons_succ]
        refine take_first 15 24 (v := ?vrb_16) rfl rfl (by kernel_rfl) (by kernel_rfl) (by kernel_rfl) (fun _ _ _ h => h) (by rfl) ?yrb_16 (by assumption) ?rrb_16
        case yrb_16 => (intro w hSw; (try dsimp only at hSw); go_simp; (try with_reducible rfl))
        simp only [Act.put, List.setIfInBounds_toArray, List.set_cons_zero, List.set_cons_succ]
        refine wpAnyH_done (by kernel_rfl) ?erb _
        gi_wp2
        exact ⟨Calm.below HB1.out, HIz.out _ HB1.out HO.out⟩
    · have e1 : (y.kind != 1) = true := by simp [h1]
      have HO : Hid (openB ns y = false) := Lib.hid (openB_kind h1)
      clear h1
      have hmix : Try.prog.follows .mixedOrders = true := by kernel_rfl
      gi_wp2
      gi_region_with_o (fail)
      all_goals gi_wp2
      all_goals exact ⟨Calm.drew _, HIz.out _ (Below.refl _ _).drew HO.out⟩
  case done =>
    rintro D t Z hD ht ⟨hJt, hK⟩ hDf
    have HJt := Lib.hid hJt
    have HD := Lib.hid hDf
    clear hJt hK hDf
    gi_wp2
    refine ⟨by simp, .inl ⟨_, _, rfl, run_takeDeferred HD.out, ?_⟩⟩
    refine ⟨_, results_none rfl _ _ _, ⟨_, rfl⟩, t, by omega, ?_⟩
    exact (HJ.out t).putObj _ HJt.out (by omega) HD.out rfl

end Go.Proofs.Ytkamlibfcakblaa
