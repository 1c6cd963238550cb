/- Texts that follow each other, merged: Ops, JaInts, JaSto, JaOk. -/
import Derived.Test.YtmbkhohgciakfaaXDrawOp0
import Derived.Test.YtmbkhohgciakfaaXRegLast
import Derived.Test.YtmbkhohgciakfaaXFrame
import Derived.Test.YtmbkhohgciakfaaXPlain
import Derived.Deep.QuietTactic
import Derived.BigQuiet
import Derived.Test.YtmbkhohgciakfaaXWrts
import Derived.Test.YtmbkhohgciakfaaXVal
import Derived.Test.YtmbkhohgciakfaaXMark
import Derived.Test.YtmbkhohgciakfaaXIntsOne

/- What is done, in rows; a play of it is drawn. -/
namespace Go.Proofs.Ytmbkhohgciakfaa
open Go.RowKit

/-- Something that is done: seven numbers. -/
def opSh : Sh Op where
  wd := 7
  zc := [.int .i64 0, .int .i64 0, .int .i64 0, .int .i64 0, .int .i64 0, .int .i64 0, .int .i64 0]
  z := ⟨0, 0, 0, 0, 0, 0, 0⟩
  base := 7
  rel _ _ cs o := cs = [.int .i64 o.kind, .int .i64 o.who, .int .i64 o.inn, .int .i64 o.code, .int .i64 o.sec, .int .i64 o.fam, .int .i64 o.gen]
  own _ _ cs o := cs = [.int .i64 o.kind, .int .i64 o.who, .int .i64 o.inn, .int .i64 o.code, .int .i64 o.sec, .int .i64 o.fam, .int .i64 o.gen]
  wt _ := 0
  cnt _ := 7
  mkd k o := o = ⟨k, k + 1, k + 2, k + 3, k + 4, k + 5, k + 6⟩
  zlen := rfl
  rlen h := by rw [h]; rfl
  rone h := by rw [h]; intro u hu; simp at hu; rcases hu with rfl | rfl | rfl | rfl | rfl | rfl | rfl <;> rfl
  rkeep h _ := h
  rmore h _ := h
  omono h _ := h
  okeep h _ := h
  orel h := h
  ozero _ _ := rfl
  ocap h := h
  cntLe _ := by omega
section
variable {w : World} {B : Nat} {v : Value}
/-- What is done at a place of a row. -/
theorem ops_at {xs : List Op} (h : opSh.Row w B v xs) {k : Nat} (hk : k < xs.length) : ∃ b off c o, v = .slice (some ⟨b, off, none⟩) xs.length c ∧ xs[k]? = some o ∧ b < B ∧ w.cell? ⟨b, off + k * 7, none⟩ = some (.int .i64 o.kind) ∧ w.cell? ⟨b, off + k * 7 + 1, none⟩ = some (.int .i64 o.who) ∧ w.cell? ⟨b, off + k * 7 + 2, none⟩ = some (.int .i64 o.inn) ∧
    w.cell? ⟨b, off + k * 7 + 3, none⟩ = some (.int .i64 o.code) ∧ w.cell? ⟨b, off + k * 7 + 4, none⟩ = some (.int .i64 o.sec) ∧ w.cell? ⟨b, off + k * 7 + 5, none⟩ = some (.int .i64 o.fam) ∧ w.cell? ⟨b, off + k * 7 + 6, none⟩ = some (.int .i64 o.gen) := by
  obtain ⟨b, off, c, x, cs, hv, hx, hb, hr, hc⟩ := h.at_ hk
  have hr' : cs = [.int .i64 x.kind, .int .i64 x.who, .int .i64 x.inn, .int .i64 x.code, .int .i64 x.sec, .int .i64 x.fam, .int .i64 x.gen] := hr
  subst hr'
  have hwd : opSh.wd = 7 := rfl
  rw [hwd] at hc
  exact ⟨b, off, c, x, hv, hx, hb, by simpa using hc 0 _ rfl, hc 1 _ rfl, hc 2 _ rfl, hc 3 _ rfl, hc 4 _ rfl, hc 5 _ rfl, hc 6 _ rfl⟩
theorem bools_at {xs : List Bool} (h : Sh.bool.Row w B v xs) {k : Nat} (hk : k < xs.length) : ∃ b off c x, v = .slice (some ⟨b, off, none⟩) xs.length c ∧ xs[k]? = some x ∧ b < B ∧ w.cell? ⟨b, off + k, none⟩ = some (.bool x) := by
  obtain ⟨b, off, c, x, cs, hv, hx, hb, hr, hc⟩ := h.at_ hk
  have hr' : cs = [.bool x] := hr
  subst hr'
  have := hc 0 _ rfl
  exact ⟨b, off, c, x, hv, hx, hb, by simpa [Sh.bool] using this⟩
end
/-- One thing more in a row. -/
theorem wpl_append_sh {α : Type} (Q0 : Sh α) (t e : TypeId) (z : Value) (bytes : Nat) (ht : Try.prog.underlying t = some (.slice e)) (hinfo : (Try.prog.info? e).map (fun i => (i.zero, i.size, i.bytes)) = some (some z, Q0.wd, bytes)) (hzs : z.cells.size = Q0.wd) (hsz : 0 < Q0.wd) (hbl : bytes ≤ 65536)
    {w : World} {ops : Array Oper} {rest : List Oper} {o : Oper} {a : Act} {Q : Exit → Act → World → Prop} (hgd : o.guard = none) (s x : Operand)
    (ho : o.op = .call { callee := .builtin .append, args := #[s, x], argTypes := #[t, t] }) (S S' : Nat → Prop) (v : Value) (xs : List α) (hs : a.eval s = v) (hv : Q0.Own e w S v xs)
    (B : Nat) (hx : a.eval x = .slice (some ⟨B, 0, none⟩) 1 1) (cs : List Value) (y : α) (hy : Q0.own w S' cs y) (hsrc : Held w B cs) (hdis : ∀ b, S b → ¬ S' b) (hl : xs.length ≤ 1048576)
    (h : ∀ v' w', Q0.Own e w' (fun b => S b ∨ S' b ∨ b = w.heap.size) v' (xs ++ [y]) → w.grownBy w' v.ownBlock → (v'.ownBlock = v.ownBlock ∨ v'.ownBlock = some w.heap.size) → wpList Try.prog ops Q rest (a.put o.dst v') w') : wpList Try.prog ops Q (o :: rest) a w := by
  refine wpList_plain hgd fun K hK => ?_
  obtain ⟨i, hi, hz, hsi, hb⟩ := info_parts hinfo
  obtain ⟨v', w', hr, h2, h3, h4⟩ := Sh.append_one (P := Try.prog) (A := Q0) i z bytes ht hi hz hsi hb hzs hsz hv B cs y hy hsrc hdis o.type hl hbl
  unfold Oper.wp execOp
  simp only [ho, resolve, invoke, builtin, Sem.run_bind, Sem.run_pure, Result.andThen_ok, List.map_toArray, List.map_cons, List.map_nil, hs, hx, hr]
  exact hK _ _ (h v' w' h2 h3 h4)
theorem infoOp : (Try.prog.info? 31).map (fun i => (i.zero, i.size, i.bytes)) = some (some (.agg #[.int .i64 0, .int .i64 0, .int .i64 0, .int .i64 0, .int .i64 0, .int .i64 0, .int .i64 0]), opSh.wd, 56) := by kernel_rfl
theorem infoBool : (Try.prog.info? 4).map (fun i => (i.zero, i.size, i.bytes)) = some (some (.bool false), Sh.bool.wd, 1) := by kernel_rfl

/-- A play: things that may be done, at most 25. -/
def PlayDrew (w : World) (e : Ending) (w' : World) : Prop :=
  ∃ u os, e = .returned u ∧ os.length ≤ 25 ∧ (∀ o ∈ os, opB o = true) ∧ opSh.Row w' w'.heap.size u os ∧ Below w.heap.size w w'
/-- While a play is drawn. -/
def PlayI (w w1 : World) (P : Int) (j : Nat) (a : Value) (W : World) : Prop :=
  ∃ os : List Op, os.length + j ≤ 25 ∧ (∀ o ∈ os, opB o = true) ∧ opSh.Own 31 W (fun b => w1.heap.size ≤ b) a os ∧ Drew w.heap.size P w1 W

set_option maxRecDepth 100000 in
set_option maxHeartbeats 1000000 in
theorem drawGloPlay_any (w : World) (v : Value) (n : Nat) (hv : Code8 w v n) : Calls Try.prog 9 #[v] w (PlayDrew w) := by
  have HV := Lib.hid hv
  clear hv
  go_enter Try.func9, Try.ntmps9
  go_wp2_with fail
  refine (l20Open_any _ _ _ HV.out).mono ?_
  rintro e w1 ⟨rfl, hr, hb1⟩
  have HB1 := Lib.hid hb1
  have HR := Lib.hid (show Rds w1 w.heap.size 0 from ⟨0, by omega, by omega, hr⟩)
  have hz1 : w.heap.size < w1.heap.size := HR.out.lt
  have HA := Lib.hid (show Drew w.heap.size 0 w1 (w1.alloc (.cells #[] 31)) from ⟨HR.out.alloc _, World.grownBy_alloc _ _ _⟩)
  have HO := Lib.hid ((Sh.Own.lit0 opSh 31 w1).mono (S' := fun b => w1.heap.size ≤ b) fun b hb => by omega)
  clear hr hb1 HR HV
  go_wp2_with fail
  refine (pick_rds _ _ _ _ HA.out.1 (by omega) (by omega)).mono ?_
  rintro e w2 ⟨k, rfl, hk0, hk1, hd2⟩
  obtain ⟨k, rfl⟩ := Int.eq_ofNat_of_zero_le hk0
  have hk : k < 26 := by have := hk1 (by omega); omega
  have HP := Lib.hid (show PlayI w w1 (1000 - 10 * k) k (.slice (some ⟨w1.heap.size, 0, none⟩) 0 0) w2 from ⟨[], by simp; omega, fun _ h => absurd h (by simp), HO.out.keep (fun b hb hlt => hd2.2.block b hlt (fun e => by have := Option.some.inj e; omega)), ⟨hd2.1.more (by omega), (HA.out.trans hd2).2⟩⟩)
  clear hk0 hk1 hd2 HA HO
  go_wp2
  go_loopw [4, 5] (fun a b wr => ∃ j : Nat, b = .int .i64 j ∧ j ≤ 25 ∧ PlayI w w1 (1000 - 10 * j) j a wr) (fun _ b _ => (intOf b).toNat)
  case atStart => exact ⟨k, rfl, by omega, HP.out⟩
  case round =>
    clear HP
    obtain ⟨j, rfl, hj2, os, hol, hog, hown, hd⟩ := hrel
    obtain ⟨Ao, co, hof, -, -⟩ := hown.row.form
    subst hof
    have HO := Lib.hid hown
    have HD := Lib.hid hd
    have HG := Lib.hid hog
    have hz : w1.heap.size ≤ wr.heap.size := hd.2.size
    clear hown hd hog
    by_cases hj : 0 < j
    · go_wp2_with fail
      refine (l20Op_zero _ _ _ HD.out.1 (by omega)).mono ?_
      rintro e w3 ⟨o, rfl, ho, hd3⟩
      have HD3 := Lib.hid ((HD.out.trans hd3).alloc (.cells #[.int .i64 o.kind, .int .i64 o.who, .int .i64 o.inn, .int .i64 o.code, .int .i64 o.sec, .int .i64 o.fam, .int .i64 o.gen] 31))
      have HO3 := Lib.hid ((HO.out.keep (w' := w3) fun b hb hlt => hd3.2.block b hlt (fun e => by have := Option.some.inj e; omega)).below (belowOne w3 (.cells #[.int .i64 o.kind, .int .i64 o.who, .int .i64 o.inn, .int .i64 o.code, .int .i64 o.sec, .int .i64 o.fam, .int .i64 o.gen] 31)))
      have HS3 := Lib.hid (Held.new w3 #[.int .i64 o.kind, .int .i64 o.who, .int .i64 o.inn, .int .i64 o.code, .int .i64 o.sec, .int .i64 o.fam, .int .i64 o.gen] 31)
      have hz3 : w1.heap.size ≤ w3.heap.size := Nat.le_trans hz hd3.2.size
      have HOk := Lib.hid ho
      clear hd3 HD HO hz ho
      go_wp2_with (at_builtin; refine wpl_append_sh opSh 23 31 _ 56 Try.underlying23 infoOp rfl (by decide) (by omega) rfl _ _ rfl (fun b => w1.heap.size ≤ b) (fun _ => False) _ os rfl HO3.out w3.heap.size rfl _ o rfl HS3.out (fun _ _ h => h) (by omega) ?_; intro u w4 hown4 hg4 _; have HO4 := Lib.hid hown4; have HG4 := Lib.hid hg4; clear hown4 hg4)
      have HD4 := Lib.hid (HD3.out.grown HG4.out (fun k hk => (HO3.out.blk k hk)) hz1)
      go_wp2
      go_roundw
      case rel =>
        refine ⟨j - 1, by go_num, by omega, os ++ [o], by simp; omega, ?_, HO4.out.mono fun b hb => ?_, HD4.out.1.more (by omega), HD4.out.2⟩
        · intro x hx
          rcases List.mem_append.1 hx with h | h
          · exact HG.out x h
          · have : x = o := by simpa using h
            exact this ▸ HOk.out
        · rcases hb with hb | hb | hb
          · exact hb
          · exact hb.elim
          · rw [hb, allocSize]; omega
      case measure => simp [intOf]; omega
    · go_wp2
      go_ret
      exact ⟨_, os, rfl, by omega, HG.out, HO.out.row, HB1.out.trans (HD.out.below (by omega) HB1.out.size)⟩

end Go.Proofs.Ytmbkhohgciakfaa

/- jaInts and jaIn of the laws. -/
namespace Go.Proofs.Ytmbkhohgciakfaa
open Go.RowKit

set_option maxRecDepth 100000 in
theorem jaInts_any (w : World) (B : Nat) (v u : Value) (xs ys : List Int) (hv : Ints w B v xs) (hu : Ints w B u ys) :
    Calls Try.prog 28 #[v, u] w fun e w' => e = .returned (.bool (decide (xs = ys))) ∧ ∃ n, w' = w.drewN n := by
  obtain ⟨A, c, rfl, hc1, hc2, hrow⟩ := hv
  obtain ⟨A', c', rfl, hc1', hc2', hrow'⟩ := hu
  unfold maxLen at hc2 hc2'
  by_cases hl : xs.length = ys.length
  · have HL := Lib.hid hl
    have hl1 : xs.length ≤ ys.length := by omega
    have hl2 : ys.length ≤ xs.length := by omega
    have hbe : (((xs.length : Nat) : Int) != ((ys.length : Nat) : Int)) = false := by simp [hl]
    clear hl
    go_enter Try.func28, Try.ntmps28
    go_wp2
    go_loopw [5] (fun i wr => ∃ k n : Nat, k ≤ xs.length ∧ i = .int .i64 k ∧ Same xs ys k ∧ wr = w.drewN n) (fun i _ => xs.length - (intOf i).toNat)
    case atStart => exact ⟨0, 0, Nat.zero_le _, rfl, Same.start xs ys, rfl⟩
    case round =>
      obtain ⟨k, n, hk, rfl, hs, rfl⟩ := hrel
      by_cases hlt : k < xs.length
      · obtain ⟨b, off, rfl, hB, hcell⟩ := hrow (by omega)
        obtain ⟨b', off', rfl, hB', hcell'⟩ := hrow' (by omega)
        have hck := hcell k hlt
        have hck' := hcell' k (by omega)
        have hlt' : k < ys.length := by omega
        clear hcell hrow hcell' hrow'
        by_cases hn : nth xs k = nth ys k
        · have hs1 := hs.step hn
          have hb1 : (nth xs k != nth ys k) = false := by simp [hn]
          clear hn
          go_wp2
          go_quiet (fail)
          go_wp2
          go_roundw
          case rel => exact ⟨k + 1, _, by omega, by go_num, hs1, rfl⟩
          case measure => simp [intOf]; omega
        · have hne := Lib.hid (nth_ne hn)
          have hb1 : (nth xs k != nth ys k) = true := by simp [hn]
          clear hn
          go_wp2
          go_quiet (fail)
          go_wp2
          go_ret
          exact ⟨ret_bool (by simp [hne.out]), _, World.drewN_drewN _ _ _⟩
      · have hks : k = xs.length := by omega
        have HE := Lib.hid ((hks ▸ hs : Same xs ys xs.length).eq HL.out)
        clear hks hrow hrow'
        go_wp2
        go_ret
        exact ⟨ret_bool (by simp [HE.out]), _, rfl⟩
  · have hne := Lib.hid (len_ne hl)
    have hbe : (((xs.length : Nat) : Int) != ((ys.length : Nat) : Int)) = true := by simp; omega
    clear hl hrow hrow'
    go_enter Try.func28, Try.ntmps28
    go_wp2
    go_ret
    exact ⟨ret_bool (by simp [hne.out]), 0, rfl⟩

/-- A number is one of some. -/
def memB (xs : List Int) (n : Int) : Bool := xs.contains n
/-- None of the first k is it. -/
def NoneTo (xs : List Int) (n : Int) (k : Nat) : Prop := ∀ j, j < k → j < xs.length → nth xs j ≠ n
theorem NoneTo.start (xs : List Int) (n : Int) : NoneTo xs n 0 := fun j h => absurd h (by omega)
theorem NoneTo.step {xs : List Int} {n : Int} {k : Nat} (h : NoneTo xs n k) (hn : nth xs k ≠ n) : NoneTo xs n (k + 1) := by
  intro j hj hl
  rcases Nat.lt_or_ge j k with hlt | hge
  · exact h j hlt hl
  · have : j = k := by omega
    subst this; exact hn
theorem NoneTo.all {xs : List Int} {n : Int} (h : NoneTo xs n xs.length) : memB xs n = false := by
  unfold memB
  rw [List.contains_eq_mem, decide_eq_false_iff_not]
  intro hm
  obtain ⟨j, hj, e⟩ := List.getElem_of_mem hm
  have := h j hj hj
  rw [nth_get hj] at this
  exact this e
theorem memB_at {xs : List Int} {n : Int} {k : Nat} (hk : k < xs.length) (h : nth xs k = n) : memB xs n = true := by
  unfold memB
  rw [List.contains_eq_mem, decide_eq_true_iff]
  rw [nth_get hk] at h
  exact h ▸ List.getElem_mem hk
end Go.Proofs.Ytmbkhohgciakfaa

/- jaSto of what is the same. -/
namespace Go.Proofs.Ytmbkhohgciakfaa
open Go.RowKit

set_option maxRecDepth 100000 in
set_option maxHeartbeats 4000000 in
theorem jaSto_same (w : World) (v u : Value) (its : List Item) (hv : Items w w.heap.size v its) (hu : Items w w.heap.size u its) :
    Calls Try.prog 49 #[.agg #[v], .agg #[u]] w fun e w' => e = .returned (.bool true) ∧ Below w.heap.size w w' := by
  obtain ⟨A, c, rfl, hc2, hc1⟩ := hv.form
  obtain ⟨A', c', rfl, hc2', hc1'⟩ := hu.form
  unfold maxLen at hc2 hc2'
  have HB := Lib.hid (belowTwo w (.cells #[.slice A its.length c] 36) (.cells #[.slice A' its.length c'] 36))
  have HX := Lib.hid ((Held.new w #[.slice A its.length c] 36).after (.cells #[.slice A' its.length c'] 36))
  have HY := Lib.hid (show Held ((w.alloc (.cells #[.slice A its.length c] 36)).alloc (.cells #[.slice A' its.length c'] 36)) (w.heap.size + 1) [.slice A' its.length c'] from by have h := Held.new (w.alloc (.cells #[.slice A its.length c] 36)) #[.slice A' its.length c'] 36; rwa [show (w.alloc (.cells #[.slice A its.length c] 36)).heap.size = w.heap.size + 1 by simp] at h)
  go_enter Try.func49, Try.ntmps49
  go_wp2
  go_loopw [5] (fun i wr => ∃ k : Nat, k ≤ its.length ∧ i = .int .i64 k ∧ Below w.heap.size w wr ∧ Held wr w.heap.size [.slice A its.length c] ∧ Held wr (w.heap.size + 1) [.slice A' its.length c']) (fun i _ => its.length - (intOf i).toNat)
  case atStart => exact ⟨0, Nat.zero_le _, rfl, HB.out, HX.out, HY.out⟩
  case round =>
    clear HB HX HY
    obtain ⟨k, hk, rfl, hb, hx, hy⟩ := hrel
    have HX := Lib.hid hx
    have HY := Lib.hid hy
    have x0 := hx.of 0 _ rfl
    have y0 := hy.of 0 _ rfl
    clear hx hy
    by_cases hlt : k < its.length
    · obtain ⟨b, off, d, it, p, e1, hit, hB, hs, ck, cu, hp⟩ := (hv.below hb).at_ (k := k) hlt
      obtain ⟨b2, off2, d2, it2, p2, e2, hit2, hB2, hs2, ck2, cu2, hp2⟩ := (hu.below hb).at_ (k := k) hlt
      rw [hit] at hit2
      injection hit2 with hit2
      subst hit2
      obtain ⟨Ap, cp, rfl, -, -⟩ := hp.form
      obtain ⟨Ap2, cp2, rfl, -, -⟩ := hp2.form
      injection e1 with e1a e1b e1c
      injection e2 with e2a e2b e2c
      subst e1a e2a
      have HP := Lib.hid (show Ints wr.drew wr.drew.heap.size _ it.val from hp.more hb.size)
      have HP2 := Lib.hid (show Ints wr.drew wr.drew.heap.size _ it.val from hp2.more hb.size)
      have HB := Lib.hid hb
      have k0 := And.intro x0 (And.intro y0 (And.intro ck (And.intro cu (And.intro ck2 cu2))))
      have f3 : (0 : Int) ≤ (k : Int) := by omega
      have f4 : (k : Int) < (its.length : Int) := by omega
      clear e1b e1c e2b e2c hv hu hit hp hp2 hb ck cu ck2 cu2
      go_wp2
      refine wp_region_held_drew (S := (fun w' => w'.cell? ⟨w.heap.size, 0, none⟩ = some (.slice (some ⟨b, off, none⟩) its.length c) ∧ w'.cell? ⟨w.heap.size + 1, 0, none⟩ = some (.slice (some ⟨b2, off2, none⟩) its.length c') ∧ w'.cell? ⟨b, off + k * 2, none⟩ = some (.string it.key) ∧ w'.cell? ⟨b, off + k * 2 + 1, none⟩ = some (.slice Ap it.val.length cp) ∧ w'.cell? ⟨b2, off2 + k * 2, none⟩ = some (.string it.key) ∧ w'.cell? ⟨b2, off2 + k * 2 + 1, none⟩ = some (.slice Ap2 it.val.length cp2))) (by kernel_rfl) ?hSr (fun hHeldr => ?str)
      case hSr => (first | (dsimp only; (exact k0)) | (exact k0))
      refine take_first 0 20 (v := ?vr_1) rfl rfl (by kernel_rfl) (by kernel_rfl) (by kernel_rfl) (fun _ _ _ h => h) (by rfl) ?yr_1 (by assumption) ?rr_1
      case yr_1 => (intro w hSw; (try dsimp only at hSw); go_simp; (try with_reducible rfl))
      simp only [Act.put, List.setIfInBounds_toArray, List.set_cons_zero, List.set_cons_succ]
      refine take_first 1 21 (v := ?vr_2) rfl rfl (by kernel_rfl) (by kernel_rfl) (by kernel_rfl) (fun _ _ _ h => h) (by rfl) ?yr_2 (by assumption) ?rr_2
      case yr_2 => (intro w hSw; (try dsimp only at hSw); go_simp; (try with_reducible rfl))
      simp only [Act.put, List.setIfInBounds_toArray, List.set_cons_zero, List.set_cons_succ]
      refine take_first 2 22 (v := ?vr_3) rfl rfl (by kernel_rfl) (by kernel_rfl) (by kernel_rfl) (fun _ _ _ h => h) (by rfl) ?yr_3 (by assumption) ?rr_3
      case yr_3 => (intro w hSw; (try dsimp only at hSw); go_simp; (try with_reducible rfl))
      simp only [Act.put, List.setIfInBounds_toArray, List.set_cons_zero, List.set_cons_succ]
      refine take_first 3 23 (v := ?vr_4) rfl rfl (by kernel_rfl) (by kernel_rfl) (by kernel_rfl) (fun _ _ _ h => h) (by rfl) ?yr_4 (by assumption) ?rr_4
      case yr_4 => (intro w hSw; (try dsimp only at hSw); go_simp; (try with_reducible rfl))
      simp only [Act.put, List.setIfInBounds_toArray, List.set_cons_zero, List.set_cons_succ]
      refine take_first 4 24 (v := ?vr_5) rfl rfl (by kernel_rfl) (by kernel_rfl) (by kernel_rfl) (fun _ _ _ h => h) (by rfl) ?yr_5 (by assumption) ?rr_5
      case yr_5 => (intro w hSw; (try dsimp only at hSw); go_simp; (try with_reducible rfl))
      simp only [Act.put, List.setIfInBounds_toArray, List.set_cons_zero, List.set_cons_succ]
      refine take_first 5 25 (v := ?vr_6) rfl rfl (by kernel_rfl) (by kernel_rfl) (by kernel_rfl) (fun _ _ _ h => h) (by rfl) ?yr_6 (by assumption) ?rr_6
      case yr_6 => (intro w hSw; (try dsimp only at hSw); go_simp; (try with_reducible rfl))
      simp only [Act.put, List.setIfInBounds_toArray, List.set_cons_zero, List.set_cons_succ]
      refine take_first 6 26 (v := ?vr_7) rfl rfl (by kernel_rfl) (by kernel_rfl) (by kernel_rfl) (fun _ _ _ h => h) (by rfl) ?yr_7 (by assumption) ?rr_7
      case yr_7 => (intro w hSw; (try dsimp only at hSw); go_simp; (try with_reducible rfl))
      simp only [Act.put, List.setIfInBounds_toArray, List.set_cons_zero, List.set_cons_succ]
      refine take_first 7 27 (v := ?vr_8) rfl rfl (by kernel_rfl) (by kernel_rfl) (by kernel_rfl) (fun _ _ _ h => h) (by rfl) ?yr_8 (by assumption) ?rr_8
      case yr_8 => (intro w hSw; (try dsimp only at hSw); go_simp; (try with_reducible rfl))
      simp only [Act.put, List.setIfInBounds_toArray, List.set_cons_zero, List.set_cons_succ]
      refine take_first 8 28 (v := ?vr_9) rfl rfl (by kernel_rfl) (by kernel_rfl) (by kernel_rfl) (fun _ _ _ h => h) (by rfl) ?yr_9 (by assumption) ?rr_9
      case yr_9 => (intro w hSw; (try dsimp only at hSw); go_simp; (try with_reducible rfl))
      simp only [Act.put, List.setIfInBounds_toArray, List.set_cons_zero, List.set_cons_succ]
      refine take_first 9 29 (v := ?vr_10) rfl rfl (by kernel_rfl) (by kernel_rfl) (by kernel_rfl) (fun _ _ _ h => h) (by rfl) ?yr_10 (by assumption) ?rr_10
      case yr_10 => (intro w hSw; (try dsimp only at hSw); go_simp; (try with_reducible rfl))
      simp only [Act.put, List.setIfInBounds_toArray, List.set_cons_zero, List.set_cons_succ]
      refine take_first 10 30 (v := ?vr_11) rfl rfl (by kernel_rfl) (by kernel_rfl) (by kernel_rfl) (fun _ _ _ h => h) (by rfl) ?yr_11 (by assumption) ?rr_11
      case yr_11 => (intro w hSw; (try dsimp only at hSw); go_simp; (try with_reducible rfl))
      simp only [Act.put, List.setIfInBounds_toArray, List.set_cons_zero, List.set_cons_succ]
      refine take_first 11 31 (v := ?vr_12) rfl rfl (by kernel_rfl) (by kernel_rfl) (by kernel_rfl) (fun _ _ _ h => h) (by rfl) ?yr_12 (by assumption) ?rr_12
      case yr_12 => (intro w hSw; (try dsimp only at hSw); go_simp; (try with_reducible rfl))
      simp only [Act.put, List.setIfInBounds_toArray, List.set_cons_zero, List.set_cons_succ]
      refine take_first 12 32 (v := ?vr_13) rfl rfl (by kernel_rfl) (by kernel_rfl) (by kernel_rfl) (fun _ _ _ h => h) (by rfl) ?yr_13 (by assumption) ?rr_13
      case yr_13 => (intro w hSw; (try dsimp only at hSw); go_simp; (try with_reducible rfl))
      simp only [Act.put, List.setIfInBounds_toArray, List.set_cons_zero, List.set_cons_succ]
      refine take_first 13 33 (v := ?vr_14) rfl rfl (by kernel_rfl) (by kernel_rfl) (by kernel_rfl) (fun _ _ _ h => h) (by rfl) ?yr_14 (by assumption) ?rr_14
      case yr_14 => (intro w hSw; (try dsimp only at hSw); go_simp; (try with_reducible rfl))
      simp only [Act.put, List.setIfInBounds_toArray, List.set_cons_zero, List.set_cons_succ]
      refine take_first 14 34 (v := ?vr_15) rfl rfl (by kernel_rfl) (by kernel_rfl) (by kernel_rfl) (fun _ _ _ h => h) (by rfl) ?yr_15 (by assumption) ?rr_15
      case yr_15 => (intro w hSw; (try dsimp only at hSw); go_simp; (try with_reducible rfl))
      simp only [Act.put, List.setIfInBounds_toArray, List.set_cons_zero, List.set_cons_succ]
      refine take_first 15 35 (v := ?vr_16) rfl rfl (by kernel_rfl) (by kernel_rfl) (by kernel_rfl) (fun _ _ _ h => h) (by rfl) ?yr_16 (by assumption) ?rr_16
      case yr_16 => (intro w hSw; (try dsimp only at hSw); go_simp; (try with_reducible rfl))
      simp only [Act.put, List.setIfInBounds_toArray, List.set_cons_zero, List.set_cons_succ]
      refine take_first 16 36 (v := ?vr_17) rfl rfl (by kernel_rfl) (by kernel_rfl) (by kernel_rfl) (fun _ _ _ h => h) (by rfl) ?yr_17 (by assumption) ?rr_17
      case yr_17 => (intro w hSw; (try dsimp only at hSw); go_simp; (try with_reducible rfl))
      simp only [Act.put, List.setIfInBounds_toArray, List.set_cons_zero, List.set_cons_succ]
      refine take_first 17 37 (v := ?vr_18) rfl rfl (by kernel_rfl) (by kernel_rfl) (by kernel_rfl) (fun _ _ _ h => h) (by rfl) ?yr_18 (by assumption) ?rr_18
      case yr_18 => (intro w hSw; (try dsimp only at hSw); go_simp; (try with_reducible rfl))
      simp only [Act.put, List.setIfInBounds_toArray, List.set_cons_zero, List.set_cons_succ]
      refine take_first 18 38 (v := ?vr_19) rfl rfl (by kernel_rfl) (by kernel_rfl) (by kernel_rfl) (fun _ _ _ h => h) (by rfl) ?yr_19 (by assumption) ?rr_19
      case yr_19 => (intro w hSw; (try dsimp only at hSw); go_simp; (try with_reducible rfl))
      simp only [Act.put, List.setIfInBounds_toArray, List.set_cons_zero, List.set_cons_succ]
      refine take_first 19 39 (v := ?vr_20) rfl rfl (by kernel_rfl) (by kernel_rfl) (by kernel_rfl) (fun _ _ _ h => h) (by rfl) ?yr_20 (by assumption) ?rr_20
      case yr_20 => (intro w hSw; (try dsimp only at hSw); go_simp; (try with_reducible rfl))
      simp only [Act.put, List.setIfInBounds_toArray, List.set_cons_zero, List.set_cons_succ]
      refine take_first 20 40 (v := ?vr_21) rfl rfl (by kernel_rfl) (by kernel_rfl) (by kernel_rfl) (fun _ _ _ h => h) (by rfl) ?yr_21 (by assumption) ?rr_21
      case yr_21 => (intro w hSw; (try dsimp only at hSw); go_simp; (try with_reducible rfl))
      simp only [Act.put, List.setIfInBounds_toArray, List.set_cons_zero, List.set_cons_succ]
      refine take_first 21 41 (v := ?vr_22) rfl rfl (by kernel_rfl) (by kernel_rfl) (by kernel_rfl) (fun _ _ _ h => h) (by rfl) ?yr_22 (by assumption) ?rr_22
      case yr_22 => (intro w hSw; (try dsimp only at hSw); go_simp; (try with_reducible rfl))
      simp only [Act.put, List.setIfInBounds_toArray, List.set_cons_zero, List.set_cons_succ]
      refine take_first 22 42 (v := ?vr_23) rfl rfl (by kernel_rfl) (by kernel_rfl) (by kernel_rfl) (fun _ _ _ h => h) (by rfl) ?yr_23 (by assumption) ?rr_23
      case yr_23 => (intro w hSw; (try dsimp only at hSw); go_simp; (try with_reducible rfl))
      simp only [Act.put, List.setIfInBounds_toArray, List.set_cons_zero, List.set_cons_succ]
      refine take_first 23 43 (v := ?vr_24) rfl rfl (by kernel_rfl) (by kernel_rfl) (by kernel_rfl) (fun _ _ _ h => h) (by rfl) ?yr_24 (by assumption) ?rr_24
      case yr_24 => (intro w hSw; (try dsimp only at hSw); go_simp; (try with_reducible rfl))
      simp only [Act.put, List.setIfInBounds_toArray, List.set_cons_zero, List.set_cons_succ]
      refine take_first 24 44 (v := ?vr_25) rfl rfl (by kernel_rfl) (by kernel_rfl) (by kernel_rfl) (fun _ _ _ h => h) (by rfl) ?yr_25 (by assumption) ?rr_25
      case yr_25 => (intro w hSw; (try dsimp only at hSw); go_simp; (try with_reducible rfl))
      simp only [Act.put, List.setIfInBounds_toArray, List.set_cons_zero, List.set_cons_succ]
      refine take_first 25 45 (v := ?vr_26) rfl rfl (by kernel_rfl) (by kernel_rfl) (by kernel_rfl) (fun _ _ _ h => h) (by rfl) ?yr_26 (by assumption) ?rr_26
      case yr_26 => (intro w hSw; (try dsimp only at hSw); go_simp; (try with_reducible rfl))
      simp only [Act.put, List.setIfInBounds_toArray, List.set_cons_zero, List.set_cons_succ]
      refine wpAnyH_ready (rs := [26]) (by kernel_rfl) (by simp) ?_
      refine AllReadyH.cons (o := _) rfl (fun Kr_27 hKr_27 => ?cr_27) ?mr_27
      case mr_27 => exact AllReadyH.nil
      go_simp
      refine (jaInts_any _ _ _ _ it.val it.val HP.out HP2.out).mono ?_; rintro e w1 ⟨rfl, n, rfl⟩; rw [show decide (it.val = it.val) = true from decide_eq_true rfl]
      go_wp2_with fail
      refine hKr_27.out _ _ ?kr_27 (fun hHeldr_27 => ?dr_27)
      case kr_27 => (first | (dsimp only; (exact k0)) | (exact k0))
      clear hKr_27 Kr_27
      refine take_first 27 47 (v := ?vr_28) rfl rfl (by kernel_rfl) (by kernel_rfl) (by kernel_rfl) (fun _ _ _ h => h) (by rfl) ?yr_28 (by assumption) ?rr_28
      case yr_28 => (intro w hSw; (try dsimp only at hSw); go_simp; (try with_reducible rfl))
      simp only [Act.put, List.setIfInBounds_toArray, List.set_cons_zero, List.set_cons_succ]
      refine take_first 28 48 (v := ?vr_29) rfl rfl (by kernel_rfl) (by kernel_rfl) (by kernel_rfl) (fun _ _ _ h => h) (by rfl) ?yr_29 (by assumption) ?rr_29
      case yr_29 => (intro w hSw; (try dsimp only at hSw); go_simp; (try with_reducible rfl))
      simp only [Act.put, List.setIfInBounds_toArray, List.set_cons_zero, List.set_cons_succ]
      refine wpAnyH_done (by kernel_rfl) ?er _
      clear k0 x0 y0
      go_wp2
      go_roundw
      case rel => exact ⟨k + 1, by omega, by go_num, belowDraws HB.out (1 + n), HX.out, HY.out⟩
      case measure => simp [intOf]; omega
    · clear hv hu
      go_wp2
      go_ret
      exact ⟨rfl, hb⟩

end Go.Proofs.Ytmbkhohgciakfaa

/- What every law of draws ends with. -/
namespace Go.Proofs.Ytmbkhohgciakfaa
open Go.RowKit

set_option maxRecDepth 100000 in
theorem jaOk_any (w : World) : Calls Try.prog 14 #[] w fun e w' => e = .returned (.bool true) ∧ Below w.heap.size w w' := by
  have HI := Lib.hid (Ints.one w 1)
  have HK : Hid (wrtB ⟨#[97, 49]⟩ false [1] = true) := by show wrtB ⟨#[97, 49]⟩ false [1] = true; decide
  go_enter Try.func14, Try.ntmps14
  go_wp2_with fail
  refine (implWrtOk_any _ _ _ _ [1] (by show 2 ≤ _; unfold maxLen; omega) HI.out).mono ?_
  rintro e w1 ⟨rfl, hb1⟩
  rw [HK.out]
  have HB := Lib.hid (belowNext (belowOne _ _) hb1)
  clear hb1
  go_wp2
  go_ret
  exact ⟨rfl, HB.out⟩

end Go.Proofs.Ytmbkhohgciakfaa
