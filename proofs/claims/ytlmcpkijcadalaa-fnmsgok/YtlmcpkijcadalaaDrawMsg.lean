/- Something that is sent is drawn. By drawmsggen.py. -/
import Derived.Test.YtlmcpkijcadalaaMsgP
import Derived.Test.YtlmcpkijcadalaaDrawOp
namespace Go.Proofs.Ytlmcpkijcadalaa
open Go.RowKit

def MsgDrew (g : Nat) (P : Int) (w : World) (e : Ending) (w' : World) : Prop := ∃ m : Msg, e = .returned (msgV m) ∧ Drew g P w w'
/-- Eleven cells of a block written. -/
abbrev put11 (w : World) (b : Nat) (b0 b1 b2 b3 b4 b5 b6 b7 b8 b9 b10 : Value) : World := (((((((((((w.setCell ⟨b, 0, none⟩ b0).setCell ⟨b, 1, none⟩ b1).setCell ⟨b, 2, none⟩ b2).setCell ⟨b, 3, none⟩ b3).setCell ⟨b, 4, none⟩ b4).setCell ⟨b, 5, none⟩ b5).setCell ⟨b, 6, none⟩ b6).setCell ⟨b, 7, none⟩ b7).setCell ⟨b, 8, none⟩ b8).setCell ⟨b, 9, none⟩ b9).setCell ⟨b, 10, none⟩ b10)
/-- What lies in memory ahead of the end: the result's block R, the block O of what is drawn. -/
structure MsgAt (w0 : World) (g : Nat) (P : Int) (R O : Nat) (m : Msg) (w : World) : Prop where
  res : Held w R [.int .i64 0, .int .i64 0, .int .i64 0, .int .i64 0, .int .i64 0, .int .i64 0, .int .i64 0, .int .i64 0, .int .i64 0, .int .i64 0, .int .i64 0]
  msg : Held w O (msgC m)
  drew : Drew g P w0 w
  gw : g < w0.heap.size
  hR : w0.heap.size ≤ R
  hO : w0.heap.size ≤ O
  ne : R ≠ O
theorem Held.put11 {w : World} {b : Nat} {a0 a1 a2 a3 a4 a5 a6 a7 a8 a9 a10 : Value} (h : Held w b [a0, a1, a2, a3, a4, a5, a6, a7, a8, a9, a10]) (b0 b1 b2 b3 b4 b5 b6 b7 b8 b9 b10 : Value) : Held (put11 w b b0 b1 b2 b3 b4 b5 b6 b7 b8 b9 b10) b [b0, b1, b2, b3, b4, b5, b6, b7, b8, b9, b10] :=
  (((((((((((h.set_ (i := 0) b0).set_ (i := 1) b1).set_ (i := 2) b2).set_ (i := 3) b3).set_ (i := 4) b4).set_ (i := 5) b5).set_ (i := 6) b6).set_ (i := 7) b7).set_ (i := 8) b8).set_ (i := 9) b9).set_ (i := 10) b10)
theorem Drew.put11 {g : Nat} {P : Int} {w a : World} (h : Drew g P w a) (b : Nat) (hb : w.heap.size ≤ b) (hgw : g < w.heap.size) (b0 b1 b2 b3 b4 b5 b6 b7 b8 b9 b10 : Value) : Drew g P w (Go.Proofs.Ytlmcpkijcadalaa.put11 a b b0 b1 b2 b3 b4 b5 b6 b7 b8 b9 b10) :=
  (((((((((((h.setCell (p := ⟨b, 0, none⟩) hb hgw b0).setCell (p := ⟨b, 1, none⟩) hb hgw b1).setCell (p := ⟨b, 2, none⟩) hb hgw b2).setCell (p := ⟨b, 3, none⟩) hb hgw b3).setCell (p := ⟨b, 4, none⟩) hb hgw b4).setCell (p := ⟨b, 5, none⟩) hb hgw b5).setCell (p := ⟨b, 6, none⟩) hb hgw b6).setCell (p := ⟨b, 7, none⟩) hb hgw b7).setCell (p := ⟨b, 8, none⟩) hb hgw b8).setCell (p := ⟨b, 9, none⟩) hb hgw b9).setCell (p := ⟨b, 10, none⟩) hb hgw b10)
theorem belowPut11 {B : Nat} {w a : World} (h : Below B w a) (b : Nat) (hb : B ≤ b) (b0 b1 b2 b3 b4 b5 b6 b7 b8 b9 b10 : Value) : Below B w (Go.Proofs.Ytlmcpkijcadalaa.put11 a b b0 b1 b2 b3 b4 b5 b6 b7 b8 b9 b10) :=
  (((((((((((h.setCell (p := ⟨b, 0, none⟩) hb b0).setCell (p := ⟨b, 1, none⟩) hb b1).setCell (p := ⟨b, 2, none⟩) hb b2).setCell (p := ⟨b, 3, none⟩) hb b3).setCell (p := ⟨b, 4, none⟩) hb b4).setCell (p := ⟨b, 5, none⟩) hb b5).setCell (p := ⟨b, 6, none⟩) hb b6).setCell (p := ⟨b, 7, none⟩) hb b7).setCell (p := ⟨b, 8, none⟩) hb b8).setCell (p := ⟨b, 9, none⟩) hb b9).setCell (p := ⟨b, 10, none⟩) hb b10)
section
variable {w0 w w' : World} {g R O : Nat} {P P' : Int} {m : Msg}
theorem MsgAt.pick (h : MsgAt w0 g P R O m w) (hd : Drew g P' w w') : MsgAt w0 g P' R O m w' :=
  ⟨h.res.drew hd (by have := h.gw; have := h.hR; omega), h.msg.drew hd (by have := h.gw; have := h.hO; omega), h.drew.trans hd, h.gw, h.hR, h.hO, h.ne⟩
theorem MsgAt.made (h : MsgAt w0 g P R O m w) (x : Obj) : MsgAt w0 g P R O m (w.alloc x) := ⟨h.res.after x, h.msg.after x, h.drew.alloc x, h.gw, h.hR, h.hO, h.ne⟩
theorem MsgAt.more (h : MsgAt w0 g P R O m w) (hP : P ≤ P') : MsgAt w0 g P' R O m w := ⟨h.res, h.msg, ⟨h.drew.1.more hP, h.drew.2⟩, h.gw, h.hR, h.hO, h.ne⟩
theorem MsgAt.rds (h : MsgAt w0 g P R O m w) : Rds w g P := h.drew.1
theorem MsgAt.set_ (h : MsgAt w0 g P R O m w) (i : Nat) (z : Int) (hi : i < 11) : ∃ m', MsgAt w0 g P R O m' (w.setCell ⟨O, i, none⟩ (.int .i64 z)) := by
  have h1 := h.msg.set_ (i := i) (.int .i64 z)
  have h2 := h.res.far (p := ⟨O, i, none⟩) h.ne (.int .i64 z)
  have h3 := h.drew.setCell (p := ⟨O, i, none⟩) h.hO h.gw (.int .i64 z)
  have hi' : i = 0 ∨ i = 1 ∨ i = 2 ∨ i = 3 ∨ i = 4 ∨ i = 5 ∨ i = 6 ∨ i = 7 ∨ i = 8 ∨ i = 9 ∨ i = 10 := by omega
  rcases hi' with rfl | rfl | rfl | rfl | rfl | rfl | rfl | rfl | rfl | rfl | rfl
  · exact ⟨{ m with kind := z }, h2, h1, h3, h.gw, h.hR, h.hO, h.ne⟩
  · exact ⟨{ m with to_ := z }, h2, h1, h3, h.gw, h.hR, h.hO, h.ne⟩
  · exact ⟨{ m with frm := z }, h2, h1, h3, h.gw, h.hR, h.hO, h.ne⟩
  · exact ⟨{ m with tx := z }, h2, h1, h3, h.gw, h.hR, h.hO, h.ne⟩
  · exact ⟨{ m with op := { m.op with kind := z } }, h2, h1, h3, h.gw, h.hR, h.hO, h.ne⟩
  · exact ⟨{ m with op := { m.op with who := z } }, h2, h1, h3, h.gw, h.hR, h.hO, h.ne⟩
  · exact ⟨{ m with op := { m.op with inn := z } }, h2, h1, h3, h.gw, h.hR, h.hO, h.ne⟩
  · exact ⟨{ m with op := { m.op with code := z } }, h2, h1, h3, h.gw, h.hR, h.hO, h.ne⟩
  · exact ⟨{ m with op := { m.op with sec := z } }, h2, h1, h3, h.gw, h.hR, h.hO, h.ne⟩
  · exact ⟨{ m with op := { m.op with fam := z } }, h2, h1, h3, h.gw, h.hR, h.hO, h.ne⟩
  · exact ⟨{ m with op := { m.op with gen := z } }, h2, h1, h3, h.gw, h.hR, h.hO, h.ne⟩
theorem MsgAt.putOp (h : MsgAt w0 g P R O m w) (x : Op) : MsgAt w0 g P R O { m with op := x } (((((((w.setCell ⟨O, 4, none⟩ (.int .i64 x.kind)).setCell ⟨O, 5, none⟩ (.int .i64 x.who)).setCell ⟨O, 6, none⟩ (.int .i64 x.inn)).setCell ⟨O, 7, none⟩ (.int .i64 x.code)).setCell ⟨O, 8, none⟩ (.int .i64 x.sec)).setCell ⟨O, 9, none⟩ (.int .i64 x.fam)).setCell ⟨O, 10, none⟩ (.int .i64 x.gen)) :=
  ⟨(((((((h.res.far (p := ⟨O, 4, none⟩) h.ne (.int .i64 x.kind)).far (p := ⟨O, 5, none⟩) h.ne (.int .i64 x.who)).far (p := ⟨O, 6, none⟩) h.ne (.int .i64 x.inn)).far (p := ⟨O, 7, none⟩) h.ne (.int .i64 x.code)).far (p := ⟨O, 8, none⟩) h.ne (.int .i64 x.sec)).far (p := ⟨O, 9, none⟩) h.ne (.int .i64 x.fam)).far (p := ⟨O, 10, none⟩) h.ne (.int .i64 x.gen)), (((((((h.msg.set_ (i := 4) (.int .i64 x.kind)).set_ (i := 5) (.int .i64 x.who)).set_ (i := 6) (.int .i64 x.inn)).set_ (i := 7) (.int .i64 x.code)).set_ (i := 8) (.int .i64 x.sec)).set_ (i := 9) (.int .i64 x.fam)).set_ (i := 10) (.int .i64 x.gen)), (((((((h.drew.setCell (p := ⟨O, 4, none⟩) h.hO h.gw (.int .i64 x.kind)).setCell (p := ⟨O, 5, none⟩) h.hO h.gw (.int .i64 x.who)).setCell (p := ⟨O, 6, none⟩) h.hO h.gw (.int .i64 x.inn)).setCell (p := ⟨O, 7, none⟩) h.hO h.gw (.int .i64 x.code)).setCell (p := ⟨O, 8, none⟩) h.hO h.gw (.int .i64 x.sec)).setCell (p := ⟨O, 9, none⟩) h.hO h.gw (.int .i64 x.fam)).setCell (p := ⟨O, 10, none⟩) h.hO h.gw (.int .i64 x.gen)), h.gw, h.hR, h.hO, h.ne⟩
end

set_option maxRecDepth 100000 in
set_option maxHeartbeats 4000000 in
theorem l20Msg_any (w : World) (g : Nat) (P n : Int) (hr : Rds w g P) (hP : P ≤ 900000) (hn : n ≤ 1000000) :
    Calls Try.prog 52 #[.pointer (some ⟨g, 0, none⟩), .int .i64 n] w (MsgDrew g (P + 30) w) := by
  have hgw := hr.lt
  have HR := Lib.hid (hr.alloc (.cells #[.int .i64 0, .int .i64 0, .int .i64 0, .int .i64 0, .int .i64 0, .int .i64 0, .int .i64 0, .int .i64 0, .int .i64 0, .int .i64 0, .int .i64 0] 29))
  have HH := Lib.hid (Held.new w #[.int .i64 0, .int .i64 0, .int .i64 0, .int .i64 0, .int .i64 0, .int .i64 0, .int .i64 0, .int .i64 0, .int .i64 0, .int .i64 0, .int .i64 0] 29)
  have HD := Lib.hid (Drew.alloc (show Drew g P w w from ⟨hr, World.grownBy.refl _ _⟩) (.cells #[.int .i64 0, .int .i64 0, .int .i64 0, .int .i64 0, .int .i64 0, .int .i64 0, .int .i64 0, .int .i64 0, .int .i64 0, .int .i64 0, .int .i64 0] 29))
  clear hr
  go_enter Try.func52, Try.ntmps52
  go_wp2_with fail
  refine (pick_rds _ _ _ _ HR.out (by omega) (by omega)).mono ?_
  rintro e w1 ⟨m0, rfl, m00, m01, hd⟩
  have m02 : m0 < 7 := m01 (by omega)
  have HH1 := Lib.hid (HH.out.drew hd (by omega))
  have HD1 := Lib.hid (HD.out.trans hd)
  clear hd HH HD HR m01
  go_wp2_with fail
  refine (pick_rds _ _ _ _ HD1.out.1 (by omega) (by omega)).mono ?_
  rintro e w2 ⟨t0, rfl, -, -, hd⟩
  have HH2 := Lib.hid (HH1.out.drew hd (by omega))
  have HD2 := Lib.hid (HD1.out.trans hd)
  have hz2 : w.heap.size < w2.heap.size := HH2.out.1
  clear hd HH1 HD1
  have HA := Lib.hid (show MsgAt w g (P + 2) w.heap.size w2.heap.size ⟨1 + m0, 0, 0, t0, ⟨0, 0, 0, 0, 0, 0, 0⟩⟩ (w2.alloc (.cells #[.int .i64 (1 + m0), .int .i64 0, .int .i64 0, .int .i64 t0, .int .i64 0, .int .i64 0, .int .i64 0, .int .i64 0, .int .i64 0, .int .i64 0, .int .i64 0] 29)) from ⟨HH2.out.after _, Held.new w2 _ _, ⟨(HD2.out.alloc _).1.more (by omega), (HD2.out.alloc _).2⟩, hgw, Nat.le_refl _, Nat.le_of_lt hz2, by omega⟩)
  clear HH2 HD2
  go_upto_if 14 with fail
  go_cut [] (fun wc => ∃ m, MsgAt w g (P + 3) w.heap.size w2.heap.size m wc)
  case first =>
    by_cases hc : 1 + m0 ≤ 3
    · go_wp2_with fail
      refine (pick_rds _ _ _ _ HA.out.rds (by omega) (by omega)).mono ?_
      rintro e w3 ⟨n0, rfl, n00, n01, hd⟩
      have n02 : n0 < 3 := n01 (by omega)
      have HC := Lib.hid (HA.out.pick hd)
      clear hd n01
      have x0 := HC.out.msg.of 1 _ rfl
      have fr := HC.out.msg.2.1
      go_wp2_with fail
      go_meet
      case rel =>
        obtain ⟨m, hh⟩ := HC.out.set_ 1 (1 + n0) (by omega)
        exact ⟨m, hh.more (by omega)⟩
    · go_wp2_with fail
      refine (pick_rds _ _ _ _ HA.out.rds (by omega) (by omega)).mono ?_
      rintro e w3 ⟨n0, rfl, n00, n01, hd⟩
      have n02 : n0 < 3 := n01 (by omega)
      have HC := Lib.hid (HA.out.pick hd)
      clear hd n01
      have x0 := HC.out.msg.of 2 _ rfl
      have fr := HC.out.msg.2.1
      go_wp2_with fail
      go_meet
      case rel =>
        obtain ⟨m, hh⟩ := HC.out.set_ 2 (1 + n0) (by omega)
        exact ⟨m, hh.more (by omega)⟩
  case rest =>
    clear HA m00 m02
    obtain ⟨m, hA⟩ := hcut
    have HA := Lib.hid hA
    clear hA
    have x0 := HA.out.msg.of 0 _ rfl
    go_upto_if 25 with fail
    go_cut [] (fun wd => ∃ m, MsgAt w g (P + 11) w.heap.size w2.heap.size m wd)
    case first =>
      by_cases hk : m.kind = 1
      · have hk' : (m.kind == 1) = true := by simp [hk]
        have HK := Lib.hid hk
        clear hk
        go_wp2_with fail
        refine (l20Op_any _ _ _ _ HA.out.rds (by omega) (by omega)).mono ?_
        rintro e w3 ⟨x, rfl, hd⟩
        have HC := Lib.hid (HA.out.pick hd)
        clear hd x0
        have x0 := HC.out.msg.of 0 _ rfl
        have x1 := HC.out.msg.of 1 _ rfl
        have x2 := HC.out.msg.of 2 _ rfl
        have x3 := HC.out.msg.of 3 _ rfl
        have x4 := HC.out.msg.of 4 _ rfl
        have x5 := HC.out.msg.of 5 _ rfl
        have x6 := HC.out.msg.of 6 _ rfl
        have x7 := HC.out.msg.of 7 _ rfl
        have x8 := HC.out.msg.of 8 _ rfl
        have x9 := HC.out.msg.of 9 _ rfl
        have x10 := HC.out.msg.of 10 _ rfl
        have fr := HC.out.msg.2.1
        go_wp2_with fail
        go_meet
        case rel => exact ⟨_, (HC.out.putOp x).more (by omega)⟩
      · have hk' : (m.kind == 1) = false := by simp [hk]
        have HK := Lib.hid hk
        clear hk
        go_wp2_with fail
        go_meet
        case rel => exact ⟨_, HA.out.more (by omega)⟩
    case rest =>
      clear HA x0 m
      obtain ⟨m, hA⟩ := hcut
      have HB := Lib.hid hA
      clear hA
      go_wp2_with fail
      refine (odd_any _ _ _ _ HB.out.rds (by omega) hn).mono ?_
      rintro e w3 ⟨b, rfl, -, hd⟩
      replace HB := Lib.hid (HB.out.pick hd)
      clear hd
      cases b
      ·
        have x0 := HB.out.msg.of 0 _ rfl
        have x1 := HB.out.msg.of 1 _ rfl
        have x2 := HB.out.msg.of 2 _ rfl
        have x3 := HB.out.msg.of 3 _ rfl
        have x4 := HB.out.msg.of 4 _ rfl
        have x5 := HB.out.msg.of 5 _ rfl
        have x6 := HB.out.msg.of 6 _ rfl
        have x7 := HB.out.msg.of 7 _ rfl
        have x8 := HB.out.msg.of 8 _ rfl
        have x9 := HB.out.msg.of 9 _ rfl
        have x10 := HB.out.msg.of 10 _ rfl
        have r0 := HB.out.res.of 0 _ rfl
        have r1 := HB.out.res.of 1 _ rfl
        have r2 := HB.out.res.of 2 _ rfl
        have r3 := HB.out.res.of 3 _ rfl
        have r4 := HB.out.res.of 4 _ rfl
        have r5 := HB.out.res.of 5 _ rfl
        have r6 := HB.out.res.of 6 _ rfl
        have r7 := HB.out.res.of 7 _ rfl
        have r8 := HB.out.res.of 8 _ rfl
        have r9 := HB.out.res.of 9 _ rfl
        have r10 := HB.out.res.of 10 _ rfl
        have gr := HB.out.res.2.1
        go_wp2_with fail
        clear x0 x1 x2 x3 x4 x5 x6 x7 x8 x9 x10 r0 r1 r2 r3 r4 r5 r6 r7 r8 r9 r10 gr
        have HQ := HB.out.res.put11 (.int .i64 m.kind) (.int .i64 m.to_) (.int .i64 m.frm) (.int .i64 m.tx) (.int .i64 m.op.kind) (.int .i64 m.op.who) (.int .i64 m.op.inn) (.int .i64 m.op.code) (.int .i64 m.op.sec) (.int .i64 m.op.fam) (.int .i64 m.op.gen)
        have q0 := HQ.of 0 _ rfl
        have q1 := HQ.of 1 _ rfl
        have q2 := HQ.of 2 _ rfl
        have q3 := HQ.of 3 _ rfl
        have q4 := HQ.of 4 _ rfl
        have q5 := HQ.of 5 _ rfl
        have q6 := HQ.of 6 _ rfl
        have q7 := HQ.of 7 _ rfl
        have q8 := HQ.of 8 _ rfl
        have q9 := HQ.of 9 _ rfl
        have q10 := HQ.of 10 _ rfl
        refine bodyPost_ret (v := msgV m) (by simp only [results, Try.results52, go_sem]; simp [go_sem, q0, q1, q2, q3, q4, q5, q6, q7, q8, q9, q10]) rfl ⟨m, rfl, ?_⟩
        exact (HB.out.more (P' := P + 30) (by omega)).drew.put11 w.heap.size (Nat.le_refl _) hgw _ _ _ _ _ _ _ _ _ _ _
      ·
        go_wp2_with fail
        refine (pick_rds _ _ _ _ HB.out.rds (by omega) (by omega)).mono ?_
        rintro e w4 ⟨m3, rfl, m30, m31, hd⟩
        replace HB := Lib.hid (HB.out.pick hd)
        have m32 : m3 < 5 := m31 (by omega)
        clear hd m31
        go_upto_block 0 with fail
        go_cut [] (fun we => ∃ m, MsgAt w g (P + 30) w.heap.size w2.heap.size m we)
        case first =>
          have m5 : m3 = 0 ∨ m3 = 1 ∨ m3 = 2 ∨ m3 = 3 ∨ m3 = 4 := by omega
          clear m30 m32
          rcases m5 with rfl | rfl | rfl | rfl | rfl
          ·
            have HC := Lib.hid (HB.out.made (.cells #[.int .i64 0, .int .i64 8] 3))
            have HL := Lib.hid (Held.new w4 #[.int .i64 0, .int .i64 8] 3)
            have hz3 : w.heap.size < w4.heap.size := Nat.lt_of_le_of_lt HB.out.hR HB.out.res.1
            go_wp2_with fail
            refine (pick_rds _ _ _ _ HC.out.rds (by omega) (by omega)).mono ?_
            rintro e w5 ⟨m4, rfl, m40, m41, hd⟩
            have m42 : m4 < 2 := m41 (by omega)
            replace HC := Lib.hid (HC.out.pick hd)
            replace HL := Lib.hid (HL.out.drew hd (by omega))
            clear hd m41 hz3
            obtain ⟨j, rfl⟩ := Int.eq_ofNat_of_zero_le m40
            obtain ⟨z, hz⟩ : ∃ z : Int, w5.cell? ⟨w4.heap.size, j, none⟩ = some (.int .i64 z) := by
              have hj : j = 0 ∨ j = 1 := by omega
              rcases hj with rfl | rfl
              · exact ⟨_, HL.out.of 0 _ rfl⟩
              · exact ⟨_, HL.out.of 1 _ rfl⟩
            have x0 := HC.out.msg.of 0 _ rfl
            have fr := HC.out.msg.2.1
            clear m40
            go_wp2_with fail
            go_meet
            case rel =>
              obtain ⟨m', hh⟩ := HC.out.set_ 0 z (by omega)
              exact ⟨m', hh.more (by omega)⟩
          ·
            have HC := Lib.hid (HB.out.made (.cells #[.int .i64 (-1), .int .i64 4, .int .i64 0, .int .i64 1] 3))
            have HL := Lib.hid (Held.new w4 #[.int .i64 (-1), .int .i64 4, .int .i64 0, .int .i64 1] 3)
            have hz3 : w.heap.size < w4.heap.size := Nat.lt_of_le_of_lt HB.out.hR HB.out.res.1
            go_wp2_with fail
            refine (pick_rds _ _ _ _ HC.out.rds (by omega) (by omega)).mono ?_
            rintro e w5 ⟨m4, rfl, m40, m41, hd⟩
            have m42 : m4 < 4 := m41 (by omega)
            replace HC := Lib.hid (HC.out.pick hd)
            replace HL := Lib.hid (HL.out.drew hd (by omega))
            clear hd m41 hz3
            obtain ⟨j, rfl⟩ := Int.eq_ofNat_of_zero_le m40
            obtain ⟨z, hz⟩ : ∃ z : Int, w5.cell? ⟨w4.heap.size, j, none⟩ = some (.int .i64 z) := by
              have hj : j = 0 ∨ j = 1 ∨ j = 2 ∨ j = 3 := by omega
              rcases hj with rfl | rfl | rfl | rfl
              · exact ⟨_, HL.out.of 0 _ rfl⟩
              · exact ⟨_, HL.out.of 1 _ rfl⟩
              · exact ⟨_, HL.out.of 2 _ rfl⟩
              · exact ⟨_, HL.out.of 3 _ rfl⟩
            have x0 := HC.out.msg.of 1 _ rfl
            have fr := HC.out.msg.2.1
            clear m40
            go_wp2_with fail
            go_meet
            case rel =>
              obtain ⟨m', hh⟩ := HC.out.set_ 1 z (by omega)
              exact ⟨m', hh.more (by omega)⟩
          ·
            have HC := Lib.hid (HB.out.made (.cells #[.int .i64 (-1), .int .i64 4, .int .i64 0, .int .i64 1] 3))
            have HL := Lib.hid (Held.new w4 #[.int .i64 (-1), .int .i64 4, .int .i64 0, .int .i64 1] 3)
            have hz3 : w.heap.size < w4.heap.size := Nat.lt_of_le_of_lt HB.out.hR HB.out.res.1
            go_wp2_with fail
            refine (pick_rds _ _ _ _ HC.out.rds (by omega) (by omega)).mono ?_
            rintro e w5 ⟨m4, rfl, m40, m41, hd⟩
            have m42 : m4 < 4 := m41 (by omega)
            replace HC := Lib.hid (HC.out.pick hd)
            replace HL := Lib.hid (HL.out.drew hd (by omega))
            clear hd m41 hz3
            obtain ⟨j, rfl⟩ := Int.eq_ofNat_of_zero_le m40
            obtain ⟨z, hz⟩ : ∃ z : Int, w5.cell? ⟨w4.heap.size, j, none⟩ = some (.int .i64 z) := by
              have hj : j = 0 ∨ j = 1 ∨ j = 2 ∨ j = 3 := by omega
              rcases hj with rfl | rfl | rfl | rfl
              · exact ⟨_, HL.out.of 0 _ rfl⟩
              · exact ⟨_, HL.out.of 1 _ rfl⟩
              · exact ⟨_, HL.out.of 2 _ rfl⟩
              · exact ⟨_, HL.out.of 3 _ rfl⟩
            have x0 := HC.out.msg.of 2 _ rfl
            have fr := HC.out.msg.2.1
            clear m40
            go_wp2_with fail
            go_meet
            case rel =>
              obtain ⟨m', hh⟩ := HC.out.set_ 2 z (by omega)
              exact ⟨m', hh.more (by omega)⟩
          ·
            have HC := Lib.hid (HB.out.made (.cells #[.int .i64 (-1), .int .i64 30] 3))
            have HL := Lib.hid (Held.new w4 #[.int .i64 (-1), .int .i64 30] 3)
            have hz3 : w.heap.size < w4.heap.size := Nat.lt_of_le_of_lt HB.out.hR HB.out.res.1
            go_wp2_with fail
            refine (pick_rds _ _ _ _ HC.out.rds (by omega) (by omega)).mono ?_
            rintro e w5 ⟨m4, rfl, m40, m41, hd⟩
            have m42 : m4 < 2 := m41 (by omega)
            replace HC := Lib.hid (HC.out.pick hd)
            replace HL := Lib.hid (HL.out.drew hd (by omega))
            clear hd m41 hz3
            obtain ⟨j, rfl⟩ := Int.eq_ofNat_of_zero_le m40
            obtain ⟨z, hz⟩ : ∃ z : Int, w5.cell? ⟨w4.heap.size, j, none⟩ = some (.int .i64 z) := by
              have hj : j = 0 ∨ j = 1 := by omega
              rcases hj with rfl | rfl
              · exact ⟨_, HL.out.of 0 _ rfl⟩
              · exact ⟨_, HL.out.of 1 _ rfl⟩
            have x0 := HC.out.msg.of 3 _ rfl
            have fr := HC.out.msg.2.1
            clear m40
            go_wp2_with fail
            go_meet
            case rel =>
              obtain ⟨m', hh⟩ := HC.out.set_ 3 z (by omega)
              exact ⟨m', hh.more (by omega)⟩
          · go_wp2_with fail
            refine (l20Op_any _ _ _ _ HB.out.rds (by omega) (by omega)).mono ?_
            rintro e w5 ⟨x, rfl, hd⟩
            have HC := Lib.hid (HB.out.pick hd)
            clear hd
            have x0 := HC.out.msg.of 0 _ rfl
            have x1 := HC.out.msg.of 1 _ rfl
            have x2 := HC.out.msg.of 2 _ rfl
            have x3 := HC.out.msg.of 3 _ rfl
            have x4 := HC.out.msg.of 4 _ rfl
            have x5 := HC.out.msg.of 5 _ rfl
            have x6 := HC.out.msg.of 6 _ rfl
            have x7 := HC.out.msg.of 7 _ rfl
            have x8 := HC.out.msg.of 8 _ rfl
            have x9 := HC.out.msg.of 9 _ rfl
            have x10 := HC.out.msg.of 10 _ rfl
            have fr := HC.out.msg.2.1
            go_wp2_with fail
            go_meet
            case rel => exact ⟨_, (HC.out.putOp x).more (by omega)⟩
        case rest =>
          clear HB m30 m32 m
          obtain ⟨m, hA⟩ := hcut
          have HB := Lib.hid hA
          clear hA
          have x0 := HB.out.msg.of 0 _ rfl
          have x1 := HB.out.msg.of 1 _ rfl
          have x2 := HB.out.msg.of 2 _ rfl
          have x3 := HB.out.msg.of 3 _ rfl
          have x4 := HB.out.msg.of 4 _ rfl
          have x5 := HB.out.msg.of 5 _ rfl
          have x6 := HB.out.msg.of 6 _ rfl
          have x7 := HB.out.msg.of 7 _ rfl
          have x8 := HB.out.msg.of 8 _ rfl
          have x9 := HB.out.msg.of 9 _ rfl
          have x10 := HB.out.msg.of 10 _ rfl
          have r0 := HB.out.res.of 0 _ rfl
          have r1 := HB.out.res.of 1 _ rfl
          have r2 := HB.out.res.of 2 _ rfl
          have r3 := HB.out.res.of 3 _ rfl
          have r4 := HB.out.res.of 4 _ rfl
          have r5 := HB.out.res.of 5 _ rfl
          have r6 := HB.out.res.of 6 _ rfl
          have r7 := HB.out.res.of 7 _ rfl
          have r8 := HB.out.res.of 8 _ rfl
          have r9 := HB.out.res.of 9 _ rfl
          have r10 := HB.out.res.of 10 _ rfl
          have gr := HB.out.res.2.1
          go_wp2_with fail
          clear x0 x1 x2 x3 x4 x5 x6 x7 x8 x9 x10 r0 r1 r2 r3 r4 r5 r6 r7 r8 r9 r10 gr
          have HQ := HB.out.res.put11 (.int .i64 m.kind) (.int .i64 m.to_) (.int .i64 m.frm) (.int .i64 m.tx) (.int .i64 m.op.kind) (.int .i64 m.op.who) (.int .i64 m.op.inn) (.int .i64 m.op.code) (.int .i64 m.op.sec) (.int .i64 m.op.fam) (.int .i64 m.op.gen)
          have q0 := HQ.of 0 _ rfl
          have q1 := HQ.of 1 _ rfl
          have q2 := HQ.of 2 _ rfl
          have q3 := HQ.of 3 _ rfl
          have q4 := HQ.of 4 _ rfl
          have q5 := HQ.of 5 _ rfl
          have q6 := HQ.of 6 _ rfl
          have q7 := HQ.of 7 _ rfl
          have q8 := HQ.of 8 _ rfl
          have q9 := HQ.of 9 _ rfl
          have q10 := HQ.of 10 _ rfl
          refine bodyPost_ret (v := msgV m) (by simp only [results, Try.results52, go_sem]; simp [go_sem, q0, q1, q2, q3, q4, q5, q6, q7, q8, q9, q10]) rfl ⟨m, rfl, ?_⟩
          exact (HB.out.more (P' := P + 30) (by omega)).drew.put11 w.heap.size (Nat.le_refl _) hgw _ _ _ _ _ _ _ _ _ _ _

end Go.Proofs.Ytlmcpkijcadalaa
