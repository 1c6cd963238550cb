/- Texts that follow each other, merged: Tight, RegIn. -/
import Derived.Test.YtkamlibfcakblaaXShOwn
import Derived.RangeFuncFrom
import Derived.Test.YtkamlibfcakblaaXCopyI
import Derived.OrdersIn
import Derived.RangeFuncNested

/- What owns lies in blocks of cells alone: no book-keeping of a walk turns it. Nothing of the program. -/
namespace Go.Proofs.Ytkamlibfcakblaa
open Go.RowKit

/-- A block of cells. -/
def CellsAt (w : World) (b : Nat) : Prop := ∃ (ca : Array Value) (ta : TypeId) (fr : Nat × Nat), w.heap[b]? = some (.cells ca ta fr)
theorem CellsAt.keep {w w' : World} {b : Nat} (h : CellsAt w b) (hk : w'.heap[b]? = w.heap[b]?) : CellsAt w' b := by
  obtain ⟨ca, ta, fr, h⟩ := h; exact ⟨ca, ta, fr, hk.trans h⟩
/-- What is owned lies in blocks of cells. -/
def Sh.Tight {α : Type} (A : Sh α) : Prop := ∀ w S cs x, A.own w S cs x → A.own w (fun b => S b ∧ CellsAt w b) cs x
theorem Sh.Own.tight {α : Type} {A : Sh α} (hA : A.Tight) {e : TypeId} {w : World} {S : Nat → Prop} {v : Value} {xs : List α} (h : A.Own e w S v xs) : A.Own e w (fun b => S b ∧ CellsAt w b) v xs := by
  obtain ⟨C, F, h1, h2, h3, h4⟩ := h
  refine ⟨C, fun j b => F j b ∧ CellsAt w b, h1, fun g hg => ⟨h2 g hg, ?_⟩, fun j x hx => ⟨hA _ _ _ _ (h3 j x hx).1, fun b hb => ⟨⟨((h3 j x hx).2 b hb.1).1, hb.2⟩, ((h3 j x hx).2 b hb.1).2⟩⟩, fun i j b hij hj h h' => h4 i j b hij hj h.1 h'.1⟩
  rcases h1.2 with ⟨rfl, -⟩ | ⟨g', cap, cur, rfl, _, hgg, _⟩
  · cases hg
  · obtain rfl := Option.some.inj hg
    exact ⟨_, _, _, hgg⟩
theorem tight_int : Sh.int.Tight := fun _ _ _ _ h => h
theorem tight_bool : Sh.bool.Tight := fun _ _ _ _ h => h
theorem tight_str (mk : Int → ByteArray) : (Sh.str mk).Tight := fun _ _ _ _ h => h
theorem Sh.Tight.pair {α β : Type} {A : Sh α} {B : Sh β} (hA : A.Tight) (hB : B.Tight) : (A.pair B).Tight := by
  rintro w S cs x ⟨c1, c2, S1, S2, rfl, h1, h2, s1, s2, d⟩
  exact ⟨c1, c2, _, _, rfl, hA _ _ _ _ h1, hB _ _ _ _ h2, fun b h => ⟨s1 b h.1, h.2⟩, fun b h => ⟨s2 b h.1, h.2⟩, fun b h h' => d b h.1 h'.1⟩
theorem Sh.Tight.conv {α β : Type} {A : Sh α} (hA : A.Tight) (f : β → α) (g : α → β) (hg : f (g A.z) = A.z) : (A.conv f g hg).Tight := fun w S cs x h => hA w S cs (f x) h
theorem Sh.Tight.sl {α : Type} {A : Sh α} (hA : A.Tight) (e : TypeId) (hb : A.base ≤ 16) : (A.sl e hb).Tight := by
  rintro w S cs xs ⟨v, rfl, h⟩
  exact ⟨v, rfl, h.tight hA⟩
/-- What lies in blocks of cells from n on stays where a block that is none of cells turns. -/
theorem Sh.Own.turned {α : Type} {A : Sh α} (hA : A.Tight) {e : TypeId} {w w' : World} {row : Option Nat} {S : Nat → Prop} {v : Value} {xs : List α} (h : A.Own e w S v xs) (hg : w.grownBy w' row) (hr : ∀ r, row = some r → ∃ o : Obj, w.heap[r]? = some o ∧ o.isCells = false) : A.Own e w' S v xs := by
  refine ((h.tight hA).keep fun b hb hlt => hg.block b hlt fun e => ?_).mono fun b hb => hb.1
  obtain ⟨o, ho, hc⟩ := hr b e.symm
  obtain ⟨ca, ta, fr, hcell⟩ := hb.2
  rw [hcell] at ho
  cases ho
  simp [Obj.isCells] at hc

end Go.Proofs.Ytkamlibfcakblaa

/- A region that draws its order within a round of a range over a function, in the fence that asks nothing: shown as outside a round. Nothing of the program. -/
namespace Go.Proofs.Ytkamlibfcakblaa

section
variable {P : Program} {md : Region.Mode} {ops : Array Oper} {Q : Exit → Act → World → Prop} {S : World → Prop} {l n : Nat}
theorem callsIn_round {f : FuncId} {args : Array Value} {w : World} {R : Ending → World → Prop} (h : Calls P f args w R) : CallsIn (Fence.wide.inRound l) n P f args w R :=
  show CallsIn Fence.wide n P f args w R from callsIn_wide.2 h
theorem rowsIn_round {row : String} {args : Array Value} {w : World} {R : Value → World → Prop} (h : Rows P row args w R) : RowsIn (Fence.wide.inRound l) n P row args w R :=
  fun c cs _ => let ⟨v, w', r, s⟩ := h c cs; ⟨v, w', r, show StepsIn (Machine.fenced P Fence.wide) P _ _ from stepsIn_wide.2 s⟩
theorem wpIn_of_wp {o : Oper} {a : Act} {w : World} {K : Act → World → Prop} (hd : ∀ c, o.op ≠ .defer c) (h : o.wp P a w K Q) : o.wpIn (Fence.wide.inRound l) n P a w K Q := by
  unfold Oper.wp at h
  unfold Oper.wpIn
  refine ⟨fun _ _ => trivial, ?_⟩
  rw [Oper.semAt_eq _ _ _ hd]
  generalize (execOp a.eval o).run P w = r at *
  have hdep : (Fence.wide.inRound l).depth.isSome = true → 1 ≤ n := fun h => by simp [Fence.wide] at h
  cases r with
  | ok x w' =>
    cases x <;> simp only [Oper.upon, Oper.uponIn] at h ⊢ <;>
      first
        | exact h
        | exact h.elim
        | exact ⟨hdep, callsIn_round h⟩
        | exact ⟨hdep, rowsIn_round h⟩
  | halt x w' => cases x <;> simp only [Oper.upon, Oper.uponIn] at h ⊢ <;> exact h
/-- No operation defers. -/
def noDefer (ops : Array Oper) : Bool := ops.all fun o => match o.op with | .defer _ => false | _ => true
theorem noDefer_at (h : noDefer ops = true) {i : Nat} {o : Oper} (ho : ops[i]? = some o) : ∀ c, o.op ≠ .defer c := by
  intro c hc
  obtain ⟨hi, rfl⟩ := Array.getElem?_eq_some_iff.1 ho
  have := Array.all_eq_true.1 h i hi
  rw [hc] at this
  cases this
theorem wpAnyIn_of (hd : noDefer ops = true) (hQ : ¬ LetsOut Q) : ∀ (fuel : Nat) (li : Array Bool) (a : Act) (w : World), wpAny P md ops Q fuel li a w → wpAnyIn (Fence.wide.inRound l) n P md ops Q fuel li a w
  | 0, _, _, _, h => h
  | fuel + 1, li, a, w, h => ⟨h.1, fun i hi => by
      have h2 := h.2 i hi
      unfold wpOp at h2
      unfold wpOpIn
      cases ho : ops[i]? with
      | none => rw [ho] at h2; exact wpAnyIn_of hd hQ fuel _ a w h2
      | some o =>
        rw [ho] at h2
        dsimp only at h2 ⊢
        split
        · rename_i hw
          rw [if_pos hw] at h2
          rcases h2 with h2 | h2
          · exact Oper.wpIn_mono (fun a w => wpAnyIn_of hd hQ fuel _ a w) (wpIn_of_wp (noDefer_at hd ho) h2)
          · exact absurd h2.2 hQ
        · rename_i hw
          rw [if_neg hw] at h2
          exact ⟨fun _ _ => trivial, wpAnyIn_of hd hQ fuel _ _ w h2⟩⟩
theorem region_l_in {F : Fence} (hF : F = Fence.wide) {id : Nat} {a : Act} {w : World} (z : Nat) (hm : P.follows .mixedOrders = true) (hd : noDefer ops = true) (hQ : ¬ LetsOut Q) (hS : S w.drew)
    (h : S w.drew → wpAnyL P .any ops Q S z ops.size (Array.replicate ops.size false) a w.drew) : (Code.region id ops true).wpIn (F.inRound l) n P Q a w := by
  subst hF
  exact wpIn_region_any hm (wpAnyIn_of hd hQ _ _ _ _ (wpAny_of_last _ _ _ _ (h hS)))
end

end Go.Proofs.Ytkamlibfcakblaa
