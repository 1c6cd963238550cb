/-
  No cell of these rows narrows 'for every input' (looked for: loops, veiled, ifaces, maps, wideKeys, modest, calm, conditions, laid).
  DERIVED. THE GIVEN ROWS OF THIS SEAT. 6 by the template 'for every input the law returns true; each argument reads behind the call as it read before'; 0 by the template 'total and deterministic' (their statements: YteccebjnopladaaGreatTotals.lean).
  GIVEN WITH THE SEED: the statements are not yours to turn. If you find one false, say at which input.
  Laid BY PROGRAM, IN A SANDBOX (cutbox-rows.mjs): the forced cells as the released guide's own fill.sh prints them over the translation fa990060aeed5cec… (all of the seat's roots in one cut). By AI agents, Wed Nov 11 2026. No macro, syntax, notation, axiom, sorry.
-/
import Derived.Test.YteccebjnopladaaGreatChecked
import GoSem.Claim
import GoSem.ClaimJoined
import GoSem.ClaimMapViews
import Derived.JoinedTies
import Derived.KernelRfl
namespace Go.Proofs.YteccebjnopladaaGreat
/- THE CELL 'sum', in the pinned program and in every row, IS THE sha256 OF THE DUMP (.gsa) THAT YteccebjnopladaaGreatProg.lean LOADS. Nothing in Lean hashes anything: it is a label: what it is worth is what the hold of that sum in a sandbox is worth. -/
noncomputable def Tryz.pinned : Pinned := { name := "yteccebjnopladaagreat", sum := "fa990060aeed5cecbaf716fbe33ffdb94f72645699cb9cffcb360925beb72d86", checked := Tryz.checked }
namespace Rows
def none {H : Type} : Left H := { results := [], args := [] }

/-- 'laws.FnExactPlcPlan': WHATEVER THE INPUT: true; the input reads as it did. -/
def fnExactPlcPlanSpec : ChangeSpec := { name := "fnExactPlcPlan", fn := fun _ => fun
  | [d1, d2, d3, d4] => { results := [.lit (.bool true)], args := [d1, d2, d3, d4] }
  | _ => none }
def fnExactPlcPlanRow : OpenClaim := { program := "yteccebjnopladaagreat", sum := "fa990060aeed5cecbaf716fbe33ffdb94f72645699cb9cffcb360925beb72d86", func := "loop.example/janitor/laws.FnExactPlcPlan", spec := "fnExactPlcPlan", unfollowed := true, recurses := true, apart := false }
def FnExactPlcPlanSaid : Prop := fnExactPlcPlanRow.holds Tryz.pinned (OpenSpec.ofChange fnExactPlcPlanSpec)

/-- ITS FALSE NEIGHBOUR: 'it returns false'. Refute it at one input. -/
def fnExactPlcPlanWrong : ChangeSpec := { name := "fnExactPlcPlan", fn := fun _ => fun
  | [d1, d2, d3, d4] => { results := [.lit (.bool false)], args := [d1, d2, d3, d4] }
  | _ => none }
def FnExactPlcPlanWrongFalsely : Prop := fnExactPlcPlanRow.holds Tryz.pinned (OpenSpec.ofChange fnExactPlcPlanWrong)

/-- 'laws.FnPlcPlan': WHATEVER THE INPUT: true; the input reads as it did. -/
def fnPlcPlanSpec : ChangeSpec := { name := "fnPlcPlan", fn := fun _ => fun
  | [d] => { results := [.lit (.bool true)], args := [d] }
  | _ => none }
def fnPlcPlanRow : OpenClaim := { program := "yteccebjnopladaagreat", sum := "fa990060aeed5cecbaf716fbe33ffdb94f72645699cb9cffcb360925beb72d86", func := "loop.example/janitor/laws.FnPlcPlan", spec := "fnPlcPlan", inPlace := ["internal/bytealg.abigen_runtime_cmpstring", "slices.overlaps[loop.example/janitor/impl.StoItem]"], unfollowed := true, recurses := true, apart := false }
def FnPlcPlanSaid : Prop := fnPlcPlanRow.holds Tryz.pinned (OpenSpec.ofChange fnPlcPlanSpec)

/-- ITS FALSE NEIGHBOUR: 'it returns false'. Refute it at one input. -/
def fnPlcPlanWrong : ChangeSpec := { name := "fnPlcPlan", fn := fun _ => fun
  | [d] => { results := [.lit (.bool false)], args := [d] }
  | _ => none }
def FnPlcPlanWrongFalsely : Prop := fnPlcPlanRow.holds Tryz.pinned (OpenSpec.ofChange fnPlcPlanWrong)

/-- 'laws.FnPlanHeld': WHATEVER THE INPUT: true; the input reads as it did. -/
def fnPlanHeldSpec : ChangeSpec := { name := "fnPlanHeld", fn := fun _ => fun
  | [d1, d2] => { results := [.lit (.bool true)], args := [d1, d2] }
  | _ => none }
def fnPlanHeldRow : OpenClaim := { program := "yteccebjnopladaagreat", sum := "fa990060aeed5cecbaf716fbe33ffdb94f72645699cb9cffcb360925beb72d86", func := "loop.example/janitor/laws.FnPlanHeld", spec := "fnPlanHeld", inPlace := ["internal/bytealg.abigen_runtime_cmpstring", "slices.overlaps[loop.example/janitor/impl.StoItem]"], unfollowed := true, recurses := true, apart := false }
def FnPlanHeldSaid : Prop := fnPlanHeldRow.holds Tryz.pinned (OpenSpec.ofChange fnPlanHeldSpec)

/-- ITS FALSE NEIGHBOUR: 'it returns false'. Refute it at one input. -/
def fnPlanHeldWrong : ChangeSpec := { name := "fnPlanHeld", fn := fun _ => fun
  | [d1, d2] => { results := [.lit (.bool false)], args := [d1, d2] }
  | _ => none }
def FnPlanHeldWrongFalsely : Prop := fnPlanHeldRow.holds Tryz.pinned (OpenSpec.ofChange fnPlanHeldWrong)

/-- 'laws.FnGloDo': WHATEVER THE INPUT: true; the input reads as it did. -/
def fnGloDoSpec : ChangeSpec := { name := "fnGloDo", fn := fun _ => fun
  | [d] => { results := [.lit (.bool true)], args := [d] }
  | _ => none }
def fnGloDoRow : OpenClaim := { program := "yteccebjnopladaagreat", sum := "fa990060aeed5cecbaf716fbe33ffdb94f72645699cb9cffcb360925beb72d86", func := "loop.example/janitor/laws.FnGloDo", spec := "fnGloDo", inPlace := ["internal/bytealg.abigen_runtime_cmpstring", "slices.overlaps[loop.example/janitor/impl.StoItem]"], unfollowed := true, recurses := true, apart := false }
def FnGloDoSaid : Prop := fnGloDoRow.holds Tryz.pinned (OpenSpec.ofChange fnGloDoSpec)

/-- ITS FALSE NEIGHBOUR: 'it returns false'. Refute it at one input. -/
def fnGloDoWrong : ChangeSpec := { name := "fnGloDo", fn := fun _ => fun
  | [d] => { results := [.lit (.bool false)], args := [d] }
  | _ => none }
def FnGloDoWrongFalsely : Prop := fnGloDoRow.holds Tryz.pinned (OpenSpec.ofChange fnGloDoWrong)

/-- 'laws.FnGloTx': WHATEVER THE INPUT: true; the input reads as it did. -/
def fnGloTxSpec : ChangeSpec := { name := "fnGloTx", fn := fun _ => fun
  | [d] => { results := [.lit (.bool true)], args := [d] }
  | _ => none }
def fnGloTxRow : OpenClaim := { program := "yteccebjnopladaagreat", sum := "fa990060aeed5cecbaf716fbe33ffdb94f72645699cb9cffcb360925beb72d86", func := "loop.example/janitor/laws.FnGloTx", spec := "fnGloTx", inPlace := ["internal/bytealg.abigen_runtime_cmpstring", "slices.overlaps[loop.example/janitor/impl.StoItem]"], unfollowed := true, recurses := true, apart := false }
def FnGloTxSaid : Prop := fnGloTxRow.holds Tryz.pinned (OpenSpec.ofChange fnGloTxSpec)

/-- ITS FALSE NEIGHBOUR: 'it returns false'. Refute it at one input. -/
def fnGloTxWrong : ChangeSpec := { name := "fnGloTx", fn := fun _ => fun
  | [d] => { results := [.lit (.bool false)], args := [d] }
  | _ => none }
def FnGloTxWrongFalsely : Prop := fnGloTxRow.holds Tryz.pinned (OpenSpec.ofChange fnGloTxWrong)

/-- 'laws.FnPlanMine': WHATEVER THE INPUT: true; the input reads as it did. -/
def fnPlanMineSpec : ChangeSpec := { name := "fnPlanMine", fn := fun _ => fun
  | [d] => { results := [.lit (.bool true)], args := [d] }
  | _ => none }
def fnPlanMineRow : OpenClaim := { program := "yteccebjnopladaagreat", sum := "fa990060aeed5cecbaf716fbe33ffdb94f72645699cb9cffcb360925beb72d86", func := "loop.example/janitor/laws.FnPlanMine", spec := "fnPlanMine", inPlace := ["internal/bytealg.abigen_runtime_cmpstring", "slices.overlaps[loop.example/janitor/impl.StoItem]"], unfollowed := true, recurses := true, apart := false }
def FnPlanMineSaid : Prop := fnPlanMineRow.holds Tryz.pinned (OpenSpec.ofChange fnPlanMineSpec)

/-- ITS FALSE NEIGHBOUR: 'it returns false'. Refute it at one input. -/
def fnPlanMineWrong : ChangeSpec := { name := "fnPlanMine", fn := fun _ => fun
  | [d] => { results := [.lit (.bool false)], args := [d] }
  | _ => none }
def FnPlanMineWrongFalsely : Prop := fnPlanMineRow.holds Tryz.pinned (OpenSpec.ofChange fnPlanMineWrong)

/- THE SECOND FORM. 'bulk': how many values and letters a reading holds, each counted each time it is reached (what is shared counts as often as it is met; a slice's spare places count too). A statement '..UptoSaid' is the law's where the arguments, and the package variables that the reading takes, are together of bulk at most 1048576: NARROWER than '..Said'. Prove '..Said' where nothing that the law and all that it calls make is longer than what came in: it says more and counts as full. Else prove '..UptoSaid'. A law counts once. -/
mutual
def uptoBulk {H : Type} : DataW H → Nat
  | .lit (.string bytes) => bytes.length + 1
  | .lit _ => 1
  | .nil => 1
  | .ptr d => uptoBulk d + 1
  | .slice elems spare => uptoBulkAll elems + uptoBulkAll spare + 1
  | .agg parts => uptoBulkAll parts + 1
  | .iface _ d => uptoBulk d + 1
  | .map entries => uptoBulkEntries entries + 1
  | .held _ => 1
def uptoBulkAll {H : Type} : List (DataW H) → Nat
  | [] => 0
  | d :: r => uptoBulk d + uptoBulkAll r
def uptoBulkEntries {H : Type} : List (Lit × DataW H) → Nat
  | [] => 0
  | x :: r => uptoBulkEntry x + uptoBulkEntries r
def uptoBulkEntry {H : Type} : Lit × DataW H → Nat
  | (.string bytes, d) => bytes.length + uptoBulk d + 1
  | (_, d) => uptoBulk d + 1
 end
def uptoSmall : (H : Type) → List (DataW H) → Bool := fun _ ds => decide (uptoBulkAll ds ≤ 1048576)
def OpenSpec.upto (s : _root_.Go.ChangeSpec) : _root_.Go.OpenSpec := { _root_.Go.OpenSpec.ofChange s with cond := some uptoSmall }

/-- 'laws.FnExactPlcPlan', WHERE WHAT IT READS IS OF BULK AT MOST 1048576: true; the input reads as it did. -/
def fnExactPlcPlanUptoRow : OpenClaim := { program := "yteccebjnopladaagreat", sum := "fa990060aeed5cecbaf716fbe33ffdb94f72645699cb9cffcb360925beb72d86", func := "loop.example/janitor/laws.FnExactPlcPlan", spec := "fnExactPlcPlan", unfollowed := true, recurses := true, apart := false, narrowed := true }
def FnExactPlcPlanUptoSaid : Prop := fnExactPlcPlanUptoRow.holds Tryz.pinned (OpenSpec.upto fnExactPlcPlanSpec)

/-- 'laws.FnPlcPlan', WHERE WHAT IT READS IS OF BULK AT MOST 1048576: true; the input reads as it did. -/
def fnPlcPlanUptoRow : OpenClaim := { program := "yteccebjnopladaagreat", sum := "fa990060aeed5cecbaf716fbe33ffdb94f72645699cb9cffcb360925beb72d86", func := "loop.example/janitor/laws.FnPlcPlan", spec := "fnPlcPlan", inPlace := ["internal/bytealg.abigen_runtime_cmpstring", "slices.overlaps[loop.example/janitor/impl.StoItem]"], unfollowed := true, recurses := true, apart := false, narrowed := true }
def FnPlcPlanUptoSaid : Prop := fnPlcPlanUptoRow.holds Tryz.pinned (OpenSpec.upto fnPlcPlanSpec)

/-- 'laws.FnPlanHeld', WHERE WHAT IT READS IS OF BULK AT MOST 1048576: true; the input reads as it did. -/
def fnPlanHeldUptoRow : OpenClaim := { program := "yteccebjnopladaagreat", sum := "fa990060aeed5cecbaf716fbe33ffdb94f72645699cb9cffcb360925beb72d86", func := "loop.example/janitor/laws.FnPlanHeld", spec := "fnPlanHeld", inPlace := ["internal/bytealg.abigen_runtime_cmpstring", "slices.overlaps[loop.example/janitor/impl.StoItem]"], unfollowed := true, recurses := true, apart := false, narrowed := true }
def FnPlanHeldUptoSaid : Prop := fnPlanHeldUptoRow.holds Tryz.pinned (OpenSpec.upto fnPlanHeldSpec)

/-- 'laws.FnGloDo', WHERE WHAT IT READS IS OF BULK AT MOST 1048576: true; the input reads as it did. -/
def fnGloDoUptoRow : OpenClaim := { program := "yteccebjnopladaagreat", sum := "fa990060aeed5cecbaf716fbe33ffdb94f72645699cb9cffcb360925beb72d86", func := "loop.example/janitor/laws.FnGloDo", spec := "fnGloDo", inPlace := ["internal/bytealg.abigen_runtime_cmpstring", "slices.overlaps[loop.example/janitor/impl.StoItem]"], unfollowed := true, recurses := true, apart := false, narrowed := true }
def FnGloDoUptoSaid : Prop := fnGloDoUptoRow.holds Tryz.pinned (OpenSpec.upto fnGloDoSpec)

/-- 'laws.FnGloTx', WHERE WHAT IT READS IS OF BULK AT MOST 1048576: true; the input reads as it did. -/
def fnGloTxUptoRow : OpenClaim := { program := "yteccebjnopladaagreat", sum := "fa990060aeed5cecbaf716fbe33ffdb94f72645699cb9cffcb360925beb72d86", func := "loop.example/janitor/laws.FnGloTx", spec := "fnGloTx", inPlace := ["internal/bytealg.abigen_runtime_cmpstring", "slices.overlaps[loop.example/janitor/impl.StoItem]"], unfollowed := true, recurses := true, apart := false, narrowed := true }
def FnGloTxUptoSaid : Prop := fnGloTxUptoRow.holds Tryz.pinned (OpenSpec.upto fnGloTxSpec)

/-- 'laws.FnPlanMine', WHERE WHAT IT READS IS OF BULK AT MOST 1048576: true; the input reads as it did. -/
def fnPlanMineUptoRow : OpenClaim := { program := "yteccebjnopladaagreat", sum := "fa990060aeed5cecbaf716fbe33ffdb94f72645699cb9cffcb360925beb72d86", func := "loop.example/janitor/laws.FnPlanMine", spec := "fnPlanMine", inPlace := ["internal/bytealg.abigen_runtime_cmpstring", "slices.overlaps[loop.example/janitor/impl.StoItem]"], unfollowed := true, recurses := true, apart := false, narrowed := true }
def FnPlanMineUptoSaid : Prop := fnPlanMineUptoRow.holds Tryz.pinned (OpenSpec.upto fnPlanMineSpec)

end Rows
end Go.Proofs.YteccebjnopladaaGreat
