/- Texts that follow each other, merged: MsgP, OpSh, ShapesMsg, Tick. -/
import Derived.Test.YtkamlibfcakblaaXOpOk
import Derived.Test.YtkamlibfcakblaaXPlcOk
import Derived.Test.YtkamlibfcakblaaXNoteOk
import Derived.Test.YtkamlibfcakblaaXMark
import Derived.Test.YtkamlibfcakblaaXListAt
import Derived.Test.YtkamlibfcakblaaXSOpen

/- What is sent: plain facts. -/
namespace Go.Proofs.Ytkamlibfcakblaa
open Go.RowKit

/-- What is sent. -/
structure Msg where
  kind : Int
  to_ : Int
  frm : Int
  tx : Int
  op : Op
deriving DecidableEq
abbrev msgC (m : Msg) : List Value := [.int .i64 m.kind, .int .i64 m.to_, .int .i64 m.frm, .int .i64 m.tx, .int .i64 m.op.kind, .int .i64 m.op.who, .int .i64 m.op.inn, .int .i64 m.op.code, .int .i64 m.op.sec, .int .i64 m.op.fam, .int .i64 m.op.gen]
abbrev msgV (m : Msg) : Value := .agg #[.int .i64 m.kind, .int .i64 m.to_, .int .i64 m.frm, .int .i64 m.tx, .int .i64 m.op.kind, .int .i64 m.op.who, .int .i64 m.op.inn, .int .i64 m.op.code, .int .i64 m.op.sec, .int .i64 m.op.fam, .int .i64 m.op.gen]
def noOp : Op := ⟨0, 0, 0, 0, 0, 0, 0⟩
/-- Something is nothing that is done. -/
def noneB (o : Op) : Bool := o.kind == 0 && (o.who == 0 && (o.inn == 0 && (o.code == 0 && (o.sec == 0 && (o.fam == 0 && o.gen == 0)))))
theorem noneB_eq {o : Op} (h : noneB o = true) : o = ⟨0, 0, 0, 0, 0, 0, 0⟩ := by
  simp only [noneB, Bool.and_eq_true, beq_iff_eq] at h
  obtain ⟨a, b, c, d, e, f, g⟩ := h
  cases o; simp_all
def toB (m : Msg) : Bool := m.frm == 0 && inB m.to_ 1 3
def frB (m : Msg) : Bool := m.to_ == 0 && inB m.frm 1 3
/-- What may be sent. -/
def msgB (m : Msg) : Bool :=
  inB m.tx 0 29 && (if m.kind = 1 then toB m && opB m.op else if m.kind = 2 ∨ m.kind = 3 then toB m && noneB m.op else if m.kind = 4 ∨ m.kind = 5 ∨ m.kind = 6 ∨ m.kind = 7 then frB m && noneB m.op else false)

end Go.Proofs.Ytkamlibfcakblaa

/- The shape of what is done. -/
namespace Go.Proofs.Ytkamlibfcakblaa
open Go.RowKit

/-- Something that is done: seven numbers. -/
def opSh : Sh Op where
  wd := 7
  zc := [.int .i64 0, .int .i64 0, .int .i64 0, .int .i64 0, .int .i64 0, .int .i64 0, .int .i64 0]
  z := ⟨0, 0, 0, 0, 0, 0, 0⟩
  base := 7
  rel _ _ cs o := cs = [.int .i64 o.kind, .int .i64 o.who, .int .i64 o.inn, .int .i64 o.code, .int .i64 o.sec, .int .i64 o.fam, .int .i64 o.gen]
  own _ _ cs o := cs = [.int .i64 o.kind, .int .i64 o.who, .int .i64 o.inn, .int .i64 o.code, .int .i64 o.sec, .int .i64 o.fam, .int .i64 o.gen]
  wt _ := 0
  cnt _ := 7
  mkd k o := o = ⟨k, k + 1, k + 2, k + 3, k + 4, k + 5, k + 6⟩
  zlen := rfl
  rlen h := by rw [h]; rfl
  rone h := by rw [h]; intro u hu; simp at hu; rcases hu with rfl | rfl | rfl | rfl | rfl | rfl | rfl <;> rfl
  rkeep h _ := h
  rmore h _ := h
  omono h _ := h
  okeep h _ := h
  orel h := h
  ozero _ _ := rfl
  ocap h := h
  cntLe _ := by omega

end Go.Proofs.Ytkamlibfcakblaa

/- The shape of what is sent: eleven numbers. -/
namespace Go.Proofs.Ytkamlibfcakblaa
open Go.RowKit

def msgSh : Sh Msg where
  wd := 11
  zc := [.int .i64 0, .int .i64 0, .int .i64 0, .int .i64 0, .int .i64 0, .int .i64 0, .int .i64 0, .int .i64 0, .int .i64 0, .int .i64 0, .int .i64 0]
  z := ⟨0, 0, 0, 0, ⟨0, 0, 0, 0, 0, 0, 0⟩⟩
  base := 11
  rel _ _ cs m := cs = msgC m
  own _ _ cs m := cs = msgC m
  wt _ := 0
  cnt _ := 11
  mkd k m := m.kind = k ∧ m.to_ = k + 1 ∧ m.frm = k + 1 + 1 ∧ m.tx = k + 1 + 1 + 1 ∧ m.op.kind = k + 1 + 1 + 1 + 1 ∧ m.op.who = k + 1 + 1 + 1 + 1 + 1 ∧ m.op.inn = k + 1 + 1 + 1 + 1 + 1 + 1 ∧ m.op.code = k + 1 + 1 + 1 + 1 + 1 + 1 + 1 ∧ m.op.sec = k + 1 + 1 + 1 + 1 + 1 + 1 + 1 + 1 ∧ m.op.fam = k + 1 + 1 + 1 + 1 + 1 + 1 + 1 + 1 + 1 ∧ m.op.gen = k + 1 + 1 + 1 + 1 + 1 + 1 + 1 + 1 + 1 + 1
  zlen := rfl
  rlen h := by rw [h]; rfl
  rone h := by rw [h]; intro u hu; simp [msgC] at hu; rcases hu with rfl | rfl | rfl | rfl | rfl | rfl | rfl | rfl | rfl | rfl | rfl <;> rfl
  rkeep h _ := h
  rmore h _ := h
  omono h _ := h
  okeep h _ := h
  orel h := h
  ozero _ _ := rfl
  ocap h := h
  cntLe _ := by omega
abbrev msgsSh : Sh (List Msg) := msgSh.sl 126 (by decide)
section
variable {w : World} {B : Nat} {S : Nat → Prop} {cs : List Value} {x : Msg}
theorem msg_rel : msgSh.rel w B cs x ↔ cs = msgC x := Iff.rfl
theorem msg_own : msgSh.own w S cs x ↔ cs = msgC x := Iff.rfl
end
theorem wtMsgMsg (x : Msg) : msgSh.wt x = 0 := rfl

end Go.Proofs.Ytkamlibfcakblaa

/- What PlcTick answers, of the program and of the model: one question for each that is open. -/
namespace Go.Proofs.Ytkamlibfcakblaa
open Go.RowKit

def whatM (p tx : Int) : Msg := ⟨7, 0, p, tx, ⟨0, 0, 0, 0, 0, 0, 0⟩⟩
def tickD (p : Int) (x : Disk) : List Msg := if inB p 1 3 = true then (openD x).map (whatM p) else []
theorem tickD_no {p : Int} {x : Disk} (h : inB p 1 3 = false) : tickD p x = [] := by unfold tickD; rw [h]; rfl
theorem tickD_yes {p : Int} {x : Disk} (h : inB p 1 3 = true) : tickD p x = (openD x).map (whatM p) := by unfold tickD; rw [h]; rfl
theorem map_take_step {p : Int} {O : List Int} {k : Nat} {tx : Int} (h : O[k]? = some tx) : (O.take (k + 1)).map (whatM p) = (O.take k).map (whatM p) ++ [whatM p tx] := by
  rw [take_snoc h, List.map_append]; rfl
theorem infoMsg : (Try.prog.info? 126).map (fun i => (i.zero, i.size, i.bytes)) = some (some (.agg #[.int .i64 0, .int .i64 0, .int .i64 0, .int .i64 0, .int .i64 0, .int .i64 0, .int .i64 0, .int .i64 0, .int .i64 0, .int .i64 0, .int .i64 0]), msgSh.wd, 88) := by kernel_rfl

theorem openD_len120 (x : Disk) : (openD x).length ≤ 120 := by
  unfold openD; split
  · rename_i h
    exact Nat.le_trans (Nat.le_trans (opensTx_len _) (inD_len _ _)) (diskB_parts h).1
  · simp
/-- A row of what is sent that a loop grows, what is open, and a box. -/
structure TkW (w : World) (SO : Nat → Prop) (vO : Value) (O : List Int) (bx : Nat) (bs : List Value) (v : Value) (ms : List Msg) (W : World) : Prop where
  row : ∃ S, msgSh.Own 126 W S v ms ∧ ∀ b, S b → (w.heap.size ≤ b ∧ b < W.heap.size) ∧ b ≠ bx ∧ ¬ SO b
  opn : Sh.int.Own 3 W SO vO O
  box : Held W bx bs
  bel : Below w.heap.size w W
theorem TkW.below {w : World} {SO : Nat → Prop} {vO : Value} {O : List Int} {bx : Nat} {bs : List Value} {v : Value} {ms : List Msg} {W W' : World} (h : TkW w SO vO O bx bs v ms W) (hb : Below W.heap.size W W') : TkW w SO vO O bx bs v ms W' := by
  obtain ⟨S, h1, h2⟩ := h.row
  exact ⟨⟨S, h1.below hb, fun b hb' => ⟨⟨(h2 b hb').1.1, Nat.lt_of_lt_of_le (h2 b hb').1.2 hb.size⟩, (h2 b hb').2⟩⟩, h.opn.below hb, h.box.below hb h.box.1, belowNext h.bel hb⟩
theorem TkW.grown {w : World} {SO : Nat → Prop} {vO : Value} {O : List Int} {bx : Nat} {bs : List Value} {v v' : Value} {ms ns : List Msg} {Z Z1 Z2 : World} {S S' : Nat → Prop} (hown : msgSh.Own 126 Z S v ms) (hS : ∀ b, S b → (w.heap.size ≤ b ∧ b < Z.heap.size) ∧ b ≠ bx ∧ ¬ SO b) (hopn : Sh.int.Own 3 Z SO vO O) (hbox : Held Z bx bs) (hbel : Below w.heap.size w Z) (hSO : ∀ b, SO b → b < Z.heap.size)
    (hb : Below Z.heap.size Z Z1) (hS' : ∀ b, S' b → Z.heap.size ≤ b ∧ b < Z1.heap.size) (ho : msgSh.Own 126 Z2 (fun b => S b ∨ S' b ∨ b = Z1.heap.size) v' ns) (hg : Z1.grownBy Z2 v.ownBlock) : TkW w SO vO O bx bs v' ns Z2 := by
  have hz1 := hb.size
  have hz2 := hg.size
  have hzb := hbox.1
  have hzw := hbel.size
  have hr : ∀ q, v.ownBlock = some q → w.heap.size ≤ q ∧ q ≠ bx ∧ ¬ SO q := fun q hq => ⟨(hS _ (hown.blk q hq)).1.1, (hS _ (hown.blk q hq)).2⟩
  refine ⟨⟨_, ho.cap, fun b hb' => ⟨⟨?_, hb'.2⟩, ?_, ?_⟩⟩, ?_, (hbox.below hb hzb).outs (Outs.of_grown (S := fun b => w.heap.size ≤ b ∧ b ≠ bx ∧ ¬ SO b) hg hr) (fun h => h.2.1 rfl), (belowNext hbel hb).grown hg (by omega) (fun q hq => (hr q hq).1)⟩
  · rcases hb'.1 with h | h | h
    · exact (hS b h).1.1
    · have := (hS' b h).1; omega
    · omega
  · rcases hb'.1 with h | h | h
    · exact (hS b h).2.1
    · have := (hS' b h).1; omega
    · omega
  · rcases hb'.1 with h | h | h
    · exact (hS b h).2.2
    · intro hs; have := (hS' b h).1; have := hSO b hs; omega
    · intro hs; have := hSO b hs; omega
  · refine (hopn.below hb).keep fun b hs hlt => hg.block b hlt fun e => ?_
    exact (hr b e.symm).2.2 hs

theorem l5Back_any (w : World) (k p tx : Int) :
    Calls Try.prog 101 #[.int .i64 k, .int .i64 p, .int .i64 tx] w fun e w' => e = .returned (.slice (some ⟨w.heap.size, 0, none⟩) 1 1) ∧ w' = w.alloc (.cells #[.int .i64 k, .int .i64 0, .int .i64 p, .int .i64 tx, .int .i64 0, .int .i64 0, .int .i64 0, .int .i64 0, .int .i64 0, .int .i64 0, .int .i64 0] 126) := by
  go_enter Try.func101, Try.ntmps101
  go_wp2
  go_ret
  exact ⟨rfl, rfl⟩
theorem message_any (w : World) (p k tx safe : Int) (A : Option Addr) (n c : Nat) :
    Calls Try.prog 103 #[.agg #[.int .i64 p, .slice A n c, .int .i64 safe], .int .i64 k, .int .i64 tx] w fun e w' => e = .returned (.agg #[.int .i64 k, .int .i64 0, .int .i64 p, .int .i64 tx, .int .i64 0, .int .i64 0, .int .i64 0, .int .i64 0, .int .i64 0, .int .i64 0, .int .i64 0]) ∧ Below w.heap.size w w' := by
  have HB := Lib.hid (belowTwo w (.cells #[.int .i64 p, .slice A n c, .int .i64 safe] 122) (.cells #[.int .i64 k, .int .i64 0, .int .i64 p, .int .i64 tx, .int .i64 0, .int .i64 0, .int .i64 0, .int .i64 0, .int .i64 0, .int .i64 0, .int .i64 0] 126))
  go_enter Try.func103, Try.ntmps103
  have HQ := Lib.hid (show Held ((w.alloc (.cells #[.int .i64 p, .slice A n c, .int .i64 safe] 122)).alloc (.cells #[.int .i64 k, .int .i64 0, .int .i64 p, .int .i64 tx, .int .i64 0, .int .i64 0, .int .i64 0, .int .i64 0, .int .i64 0, .int .i64 0, .int .i64 0] 126)) (w.heap.size + 1) [.int .i64 k, .int .i64 0, .int .i64 p, .int .i64 tx, .int .i64 0, .int .i64 0, .int .i64 0, .int .i64 0, .int .i64 0, .int .i64 0, .int .i64 0] from by have h := Held.new (w.alloc (.cells #[.int .i64 p, .slice A n c, .int .i64 safe] 122)) #[.int .i64 k, .int .i64 0, .int .i64 p, .int .i64 tx, .int .i64 0, .int .i64 0, .int .i64 0, .int .i64 0, .int .i64 0, .int .i64 0, .int .i64 0] 126; rwa [allocSize] at h)
  go_wp2
  have q0 := HQ.out.of 0 _ rfl
  have q1 := HQ.out.of 1 _ rfl
  have q2 := HQ.out.of 2 _ rfl
  have q3 := HQ.out.of 3 _ rfl
  have q4 := HQ.out.of 4 _ rfl
  have q5 := HQ.out.of 5 _ rfl
  have q6 := HQ.out.of 6 _ rfl
  have q7 := HQ.out.of 7 _ rfl
  have q8 := HQ.out.of 8 _ rfl
  have q9 := HQ.out.of 9 _ rfl
  have q10 := HQ.out.of 10 _ rfl
  exact bodyPost_ret (v := .agg #[.int .i64 k, .int .i64 0, .int .i64 p, .int .i64 tx, .int .i64 0, .int .i64 0, .int .i64 0, .int .i64 0, .int .i64 0, .int .i64 0, .int .i64 0]) (by simp [results, Try.results103, go_sem, q0, q1, q2, q3, q4, q5, q6, q7, q8, q9, q10]) rfl ⟨rfl, HB.out⟩

set_option maxRecDepth 100000 in
set_option maxHeartbeats 4000000 in
theorem specPlcTick_any (w : World) (p : Int) (cs : List Value) (x : Disk) (h : diskSh.rel w w.heap.size cs x) :
    Calls Try.prog 52 #[.int .i64 p, .agg cs.toArray] w (CopiedSl msgSh 126 (tickD p x) w) := by
  have HH := Lib.hid fun W (hb : Below w.heap.size w W) => diskSh.rmore (diskSh.rbelow h hb) hb.size
  obtain ⟨u, rfl, hu⟩ := disk_rel.1 h
  obtain ⟨Au, cu, rfl, hcu, hnu⟩ := hu.form
  clear h hu
  have HB := Lib.hid (belowTwo w (.cells #[.slice Au x.notes.length cu, .int .i64 x.safe] 25) (.cells #[] 126))
  have HX := Lib.hid ((Held.new w #[.slice Au x.notes.length cu, .int .i64 x.safe] 25).after (.cells #[] 126))
  have HE := Lib.hid (show msgSh.Own 126 ((w.alloc (.cells #[.slice Au x.notes.length cu, .int .i64 x.safe] 25)).alloc (.cells #[] 126)) (fun b => b = w.heap.size + 1) (.slice (some ⟨w.heap.size + 1, 0, none⟩) 0 0) [] from by have h0 := Sh.Own.lit0 msgSh 126 (w.alloc (.cells #[.slice Au x.notes.length cu, .int .i64 x.safe] 25)); rwa [allocSize] at h0)
  have HZ := Lib.hid (show ((w.alloc (.cells #[.slice Au x.notes.length cu, .int .i64 x.safe] 25)).alloc (.cells #[] 126)).heap.size = w.heap.size + 1 + 1 from by rw [allocSize, allocSize])
  go_enter Try.func52, Try.ntmps52
  go_wp2_with fail
  refine (l1In_any _ _ _ _).mono ?_
  rintro e w' ⟨rfl, rfl⟩
  rcases hp : inB p 1 3
  · have HT := Lib.hid (tickD_no (x := x) hp)
    go_wp2
    go_ret
    exact ⟨_, rfl, by rw [HT.out]; exact HE.out.mono (fun b hb => by have hz := HZ.out; omega), HB.out⟩
  · have HT := Lib.hid (tickD_yes (x := x) hp)
    clear hp
    have x0 := HX.out.of 0 _ rfl
    have x1 := HX.out.of 1 _ rfl
    go_wp2_with fail
    clear x0 x1
    refine (specDiskOpen_any _ _ x (HH.out _ HB.out)).mono ?_
    rintro e w2 ⟨vO, rfl, ho, hb⟩
    obtain ⟨O, hO⟩ : ∃ O, openD x = O := ⟨_, rfl⟩
    have hl := openD_len120 x
    rw [hO] at ho hl
    obtain ⟨Ao, co, rfl, -, -⟩ := ho.row.form
    have HS := Lib.hid (show TkW w (fun b => ((w.alloc (.cells #[.slice Au x.notes.length cu, .int .i64 x.safe] 25)).alloc (.cells #[] 126)).heap.size ≤ b ∧ b < w2.heap.size) (.slice Ao O.length co) O w.heap.size [.slice Au x.notes.length cu, .int .i64 x.safe] (.slice (some ⟨w.heap.size + 1, 0, none⟩) 0 0) [] w2 from
      ⟨⟨_, HE.out.below hb, fun b hb' => ⟨⟨by omega, by have := hb.size; have := HZ.out; omega⟩, by omega, by have := HZ.out; omega⟩⟩, ho, HX.out.below hb HX.out.1, belowNext HB.out hb⟩)
    have HOo := Lib.hid hO
    clear ho hb hO HE HX HH HB
    go_wp2
    go_loopw [5, 7] (fun v i wr => ∃ k : Nat, k ≤ O.length ∧ i = .int .i64 k ∧ TkW w (fun b => ((w.alloc (.cells #[.slice Au x.notes.length cu, .int .i64 x.safe] 25)).alloc (.cells #[] 126)).heap.size ≤ b ∧ b < w2.heap.size) (.slice Ao O.length co) O w.heap.size [.slice Au x.notes.length cu, .int .i64 x.safe] v ((O.take k).map (whatM p)) wr ∧ w2.heap.size ≤ wr.heap.size) (fun _ i _ => O.length - (intOf i).toNat)
    case atStart => exact ⟨0, Nat.zero_le _, rfl, HS.out, Nat.le_refl _⟩
    case round =>
      clear HS
      obtain ⟨k, hk, rfl, hT, hwz⟩ := hrel
      obtain ⟨ms, hms⟩ : ∃ ms, (O.take k).map (whatM p) = ms := ⟨_, rfl⟩
      have hml : ms.length ≤ 120 := by rw [← hms, List.length_map, List.length_take]; omega
      rw [hms] at hT
      obtain ⟨S, h1, h2⟩ := hT.row
      obtain ⟨Av, cv, rfl, -, -⟩ := h1.row.form
      have HTk := Lib.hid hT
      have HR := Lib.hid h1
      have HS := Lib.hid h2
      have HMs := Lib.hid hms
      clear hT h1 h2 hms
      by_cases hlt : k < O.length
      · obtain ⟨b, off, d, tx, cs1, e1, hx, hbB, hr, hc⟩ := HTk.out.opn.row.at_ hlt
        obtain rfl : cs1 = [.int .i64 tx] := hr
        have c0 : wr.cell? ⟨b, off + k, none⟩ = some (.int .i64 tx) := by have h := hc 0 _ rfl; rwa [show off + k * Sh.int.wd + 0 = off + k from by show off + k * 1 + 0 = off + k; omega] at h
        injection e1 with e1a e1b e1c
        subst e1a
        have HM := Lib.hid (map_take_step (p := p) hx)
        clear e1b e1c hc hx
        go_wp2_with fail
        refine (l5Back_any _ _ _ _).mono ?_
        rintro e w5 ⟨rfl, rfl⟩
        have hyZ : msgSh.own (wr.alloc (.cells #[.int .i64 7, .int .i64 0, .int .i64 p, .int .i64 tx, .int .i64 0, .int .i64 0, .int .i64 0, .int .i64 0, .int .i64 0, .int .i64 0, .int .i64 0] 126)) (fun _ => False) [.int .i64 7, .int .i64 0, .int .i64 p, .int .i64 tx, .int .i64 0, .int .i64 0, .int .i64 0, .int .i64 0, .int .i64 0, .int .i64 0, .int .i64 0] (whatM p tx) := rfl
        have HB1 := Lib.hid (belowOne wr (.cells #[.int .i64 7, .int .i64 0, .int .i64 p, .int .i64 tx, .int .i64 0, .int .i64 0, .int .i64 0, .int .i64 0, .int .i64 0, .int .i64 0, .int .i64 0] 126))
        have HS1 := Lib.hid (Held.new wr #[.int .i64 7, .int .i64 0, .int .i64 p, .int .i64 tx, .int .i64 0, .int .i64 0, .int .i64 0, .int .i64 0, .int .i64 0, .int .i64 0, .int .i64 0] 126)
        have HOw := Lib.hid (HR.out.below HB1.out)
        go_wp2_with (at_builtin; refine wpl_one msgSh 68 126 _ 88 Try.underlying68 infoMsg rfl (by decide) (by omega) rfl (.tmp 21) (.tmp 27) rfl S (fun _ => False) (.slice Av ms.length cv) ms rfl HOw.out wr.heap.size rfl _ (whatM p tx) hyZ HS1.out (fun _ _ h => h) (by omega) ?_; intro v' Z2 ho2 hg2 _; have HO3 := Lib.hid ho2; have HG3 := Lib.hid hg2; clear ho2 hg2)
        go_roundw
        case rel =>
          have hg := TkW.grown HR.out HS.out HTk.out.opn HTk.out.box HTk.out.bel (fun b hb => by have := hb.2; omega) HB1.out (fun b h => h.elim) HO3.out HG3.out
          exact ⟨k + 1, by omega, by go_num, by rw [HM.out, HMs.out]; exact hg, by have := HB1.out.size; have := HG3.out.size; omega⟩
        case measure => simp [intOf]; omega
      · have hke : k = O.length := by omega
        go_wp2
        go_ret
        exact ⟨_, rfl, by rw [HT.out, HOo.out, ← List.take_length (l := O), ← hke, HMs.out]; exact HR.out.mono (fun b hb => (HS.out b hb).1), HTk.out.bel⟩

set_option maxRecDepth 100000 in
set_option maxHeartbeats 4000000 in
theorem implPlcTick_any (w : World) (p : Int) (cs : List Value) (x : Disk) (h : diskSh.rel w w.heap.size cs x) :
    Calls Try.prog 53 #[.int .i64 p, .agg cs.toArray] w (CopiedSl msgSh 126 (tickD p x) w) := by
  have HH := Lib.hid fun W (hb : Below w.heap.size w W) => diskSh.rmore (diskSh.rbelow h hb) hb.size
  obtain ⟨u, rfl, hu⟩ := disk_rel.1 h
  obtain ⟨Au, cu, rfl, hcu, hnu⟩ := hu.form
  clear h hu
  have HB0 := Lib.hid (belowOne w (.cells #[.slice Au x.notes.length cu, .int .i64 x.safe] 25))
  have HB := Lib.hid (belowTwo w (.cells #[.slice Au x.notes.length cu, .int .i64 x.safe] 25) (.cells #[.int .i64 p, .slice Au x.notes.length cu, .int .i64 x.safe] 122))
  have HX0 := Lib.hid (Held.new w #[.slice Au x.notes.length cu, .int .i64 x.safe] 25)
  have HX := Lib.hid (HX0.out.after (.cells #[.int .i64 p, .slice Au x.notes.length cu, .int .i64 x.safe] 122))
  have HP := Lib.hid (show Held ((w.alloc (.cells #[.slice Au x.notes.length cu, .int .i64 x.safe] 25)).alloc (.cells #[.int .i64 p, .slice Au x.notes.length cu, .int .i64 x.safe] 122)) (w.heap.size + 1) [.int .i64 p, .slice Au x.notes.length cu, .int .i64 x.safe] from by have h0 := Held.new (w.alloc (.cells #[.slice Au x.notes.length cu, .int .i64 x.safe] 25)) #[.int .i64 p, .slice Au x.notes.length cu, .int .i64 x.safe] 122; rwa [allocSize] at h0)
  have HZ := Lib.hid (show ((w.alloc (.cells #[.slice Au x.notes.length cu, .int .i64 x.safe] 25)).alloc (.cells #[.int .i64 p, .slice Au x.notes.length cu, .int .i64 x.safe] 122)).heap.size = w.heap.size + 1 + 1 from by rw [allocSize, allocSize])
  go_enter Try.func53, Try.ntmps53
  go_wp2_with fail
  refine (isService_any _ _).mono ?_
  rintro e w' ⟨rfl, rfl⟩
  rcases hp : inB p 1 3
  · have HT := Lib.hid (tickD_no (x := x) hp)
    go_wp2
    go_ret
    exact ⟨_, rfl, by rw [HT.out]; exact Sh.Own.nil _ _, HB0.out⟩
  · have HT := Lib.hid (tickD_yes (x := x) hp)
    clear hp
    have x0 := HX.out.of 0 _ rfl
    have x1 := HX.out.of 1 _ rfl
    go_wp2_with fail
    clear x0 x1
    refine (implDiskOpen_any _ _ x (HH.out _ HB.out)).mono ?_
    rintro e w2 ⟨vO, rfl, ho, hb⟩
    obtain ⟨O, hO⟩ : ∃ O, openD x = O := ⟨_, rfl⟩
    have hl := openD_len120 x
    rw [hO] at ho hl
    obtain ⟨Ao, co, rfl, -, -⟩ := ho.row.form
    have HS := Lib.hid (show TkW w (fun b => ((w.alloc (.cells #[.slice Au x.notes.length cu, .int .i64 x.safe] 25)).alloc (.cells #[.int .i64 p, .slice Au x.notes.length cu, .int .i64 x.safe] 122)).heap.size ≤ b ∧ b < w2.heap.size) (.slice Ao O.length co) O (w.heap.size + 1) [.int .i64 p, .slice Au x.notes.length cu, .int .i64 x.safe] (.slice none 0 0) [] w2 from
      ⟨⟨fun _ => False, Sh.Own.nil _ _, fun b hb' => hb'.elim⟩, ho, HP.out.below hb HP.out.1, belowNext HB.out hb⟩)
    have HOo := Lib.hid hO
    clear ho hb hO HX HX0 HH HB HB0 HP
    go_wp2
    go_loopw [6, 18] (fun v i wr => ∃ k : Nat, k ≤ O.length ∧ i = .int .i64 k ∧ TkW w (fun b => ((w.alloc (.cells #[.slice Au x.notes.length cu, .int .i64 x.safe] 25)).alloc (.cells #[.int .i64 p, .slice Au x.notes.length cu, .int .i64 x.safe] 122)).heap.size ≤ b ∧ b < w2.heap.size) (.slice Ao O.length co) O (w.heap.size + 1) [.int .i64 p, .slice Au x.notes.length cu, .int .i64 x.safe] v ((O.take k).map (whatM p)) wr ∧ w2.heap.size ≤ wr.heap.size) (fun _ i _ => O.length - (intOf i).toNat)
    case atStart => exact ⟨0, Nat.zero_le _, rfl, HS.out, Nat.le_refl _⟩
    case round =>
      clear HS
      obtain ⟨k, hk, rfl, hT, hwz⟩ := hrel
      obtain ⟨ms, hms⟩ : ∃ ms, (O.take k).map (whatM p) = ms := ⟨_, rfl⟩
      have hml : ms.length ≤ 120 := by rw [← hms, List.length_map, List.length_take]; omega
      rw [hms] at hT
      obtain ⟨S, h1, h2⟩ := hT.row
      obtain ⟨Av, cv, rfl, -, -⟩ := h1.row.form
      have HTk := Lib.hid hT
      have HR := Lib.hid h1
      have HS := Lib.hid h2
      have HMs := Lib.hid hms
      have b0 := hT.box.of 0 _ rfl
      have b1 := hT.box.of 1 _ rfl
      have b2 := hT.box.of 2 _ rfl
      clear hT h1 h2 hms
      by_cases hlt : k < O.length
      · obtain ⟨b, off, d, tx, cs1, e1, hx, hbB, hr, hc⟩ := HTk.out.opn.row.at_ hlt
        obtain rfl : cs1 = [.int .i64 tx] := hr
        have c0 : wr.cell? ⟨b, off + k, none⟩ = some (.int .i64 tx) := by have h := hc 0 _ rfl; rwa [show off + k * Sh.int.wd + 0 = off + k from by show off + k * 1 + 0 = off + k; omega] at h
        injection e1 with e1a e1b e1c
        subst e1a
        have HM := Lib.hid (map_take_step (p := p) hx)
        clear e1b e1c hc hx
        go_wp2_with fail
        refine (message_any _ _ _ _ _ _ _ _).mono ?_
        rintro e w5 ⟨rfl, hb5⟩
        have HT5 := Lib.hid (HTk.out.below hb5)
        have HR5 := Lib.hid (HR.out.below hb5)
        have hz5 := hb5.size
        have HS5 := Lib.hid (fun b (hb : S b) => (⟨⟨(HS.out b hb).1.1, by have := (HS.out b hb).1.2; omega⟩, (HS.out b hb).2⟩ : (w.heap.size ≤ b ∧ b < w5.heap.size) ∧ b ≠ w.heap.size + 1 ∧ _))
        clear hb5 b0 b1 b2 c0
        have hyZ : msgSh.own (w5.alloc (.cells #[.int .i64 7, .int .i64 0, .int .i64 p, .int .i64 tx, .int .i64 0, .int .i64 0, .int .i64 0, .int .i64 0, .int .i64 0, .int .i64 0, .int .i64 0] 126)) (fun _ => False) [.int .i64 7, .int .i64 0, .int .i64 p, .int .i64 tx, .int .i64 0, .int .i64 0, .int .i64 0, .int .i64 0, .int .i64 0, .int .i64 0, .int .i64 0] (whatM p tx) := rfl
        have HB1 := Lib.hid (belowOne w5 (.cells #[.int .i64 7, .int .i64 0, .int .i64 p, .int .i64 tx, .int .i64 0, .int .i64 0, .int .i64 0, .int .i64 0, .int .i64 0, .int .i64 0, .int .i64 0] 126))
        have HS1 := Lib.hid (Held.new w5 #[.int .i64 7, .int .i64 0, .int .i64 p, .int .i64 tx, .int .i64 0, .int .i64 0, .int .i64 0, .int .i64 0, .int .i64 0, .int .i64 0, .int .i64 0] 126)
        have HOw := Lib.hid (HR5.out.below HB1.out)
        go_wp2_with (at_builtin; refine wpl_one msgSh 68 126 _ 88 Try.underlying68 infoMsg rfl (by decide) (by omega) rfl (.tmp 22) (.tmp 26) rfl S (fun _ => False) (.slice Av ms.length cv) ms rfl HOw.out w5.heap.size rfl _ (whatM p tx) hyZ HS1.out (fun _ _ h => h) (by omega) ?_; intro v' Z2 ho2 hg2 _; have HO3 := Lib.hid ho2; have HG3 := Lib.hid hg2; clear ho2 hg2)
        go_roundw
        case rel =>
          have hg := TkW.grown HR5.out HS5.out HT5.out.opn HT5.out.box HT5.out.bel (fun b hb => by have := hb.2; omega) HB1.out (fun b h => h.elim) HO3.out HG3.out
          exact ⟨k + 1, by omega, by go_num, by rw [HM.out, HMs.out]; exact hg, by have := HB1.out.size; have := HG3.out.size; omega⟩
        case measure => simp [intOf]; omega
      · have hke : k = O.length := by omega
        go_wp2
        go_ret
        exact ⟨_, rfl, by rw [HT.out, HOo.out, ← List.take_length (l := O), ← hke, HMs.out]; exact HR.out.mono (fun b hb => (HS.out b hb).1), HTk.out.bel⟩

end Go.Proofs.Ytkamlibfcakblaa
