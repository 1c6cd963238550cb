/-
  No cell of these rows narrows 'for every input' (looked for: loops, veiled, ifaces, maps, wideKeys, modest, calm, conditions, laid).
  DERIVED. THE GIVEN ROWS OF THIS SEAT. 4 by the template 'for every input the law returns true; each argument reads behind the call as it read before'; 0 by the template 'total and deterministic' (their statements: YtecdibpiojgppaaGreatTotals.lean).
  GIVEN WITH THE SEED: the statements are not yours to turn. If you find one false, say at which input.
  Laid BY PROGRAM, IN A SANDBOX (cutbox-rows.mjs): the forced cells as the released guide's own fill.sh prints them over the translation ef9b6dec532f1410… (all of the seat's roots in one cut). By AI agents, Wed Nov 11 2026. No macro, syntax, notation, axiom, sorry.
-/
import Derived.Test.YtecdibpiojgppaaGreatChecked
import GoSem.Claim
import GoSem.ClaimJoined
import GoSem.ClaimMapViews
import Derived.JoinedTies
import Derived.KernelRfl
namespace Go.Proofs.YtecdibpiojgppaaGreat
/- THE CELL 'sum', in the pinned program and in every row, IS THE sha256 OF THE DUMP (.gsa) THAT YtecdibpiojgppaaGreatProg.lean LOADS. Nothing in Lean hashes anything: it is a label: what it is worth is what the hold of that sum in a sandbox is worth. -/
noncomputable def Tryz.pinned : Pinned := { name := "ytecdibpiojgppaagreat", sum := "ef9b6dec532f1410a44a822ac1af9c481981e4881984fc4bd8eab9f6792cd554", checked := Tryz.checked }
namespace Rows
def none {H : Type} : Left H := { results := [], args := [] }

/-- 'laws.FnPlanOnce': WHATEVER THE INPUT: true; the input reads as it did. -/
def fnPlanOnceSpec : ChangeSpec := { name := "fnPlanOnce", fn := fun _ => fun
  | [d] => { results := [.lit (.bool true)], args := [d] }
  | _ => none }
def fnPlanOnceRow : OpenClaim := { program := "ytecdibpiojgppaagreat", sum := "ef9b6dec532f1410a44a822ac1af9c481981e4881984fc4bd8eab9f6792cd554", func := "loop.example/janitor/laws.FnPlanOnce", spec := "fnPlanOnce", inPlace := ["internal/bytealg.abigen_runtime_cmpstring", "slices.overlaps[loop.example/janitor/impl.StoItem]"], unfollowed := true, recurses := true, apart := false }
def FnPlanOnceSaid : Prop := fnPlanOnceRow.holds Tryz.pinned (OpenSpec.ofChange fnPlanOnceSpec)

/-- ITS FALSE NEIGHBOUR: 'it returns false'. Refute it at one input. -/
def fnPlanOnceWrong : ChangeSpec := { name := "fnPlanOnce", fn := fun _ => fun
  | [d] => { results := [.lit (.bool false)], args := [d] }
  | _ => none }
def FnPlanOnceWrongFalsely : Prop := fnPlanOnceRow.holds Tryz.pinned (OpenSpec.ofChange fnPlanOnceWrong)

/-- 'laws.FnPlanHeld': WHATEVER THE INPUT: true; the input reads as it did. -/
def fnPlanHeldSpec : ChangeSpec := { name := "fnPlanHeld", fn := fun _ => fun
  | [d1, d2] => { results := [.lit (.bool true)], args := [d1, d2] }
  | _ => none }
def fnPlanHeldRow : OpenClaim := { program := "ytecdibpiojgppaagreat", sum := "ef9b6dec532f1410a44a822ac1af9c481981e4881984fc4bd8eab9f6792cd554", func := "loop.example/janitor/laws.FnPlanHeld", spec := "fnPlanHeld", inPlace := ["internal/bytealg.abigen_runtime_cmpstring", "slices.overlaps[loop.example/janitor/impl.StoItem]"], unfollowed := true, recurses := true, apart := false }
def FnPlanHeldSaid : Prop := fnPlanHeldRow.holds Tryz.pinned (OpenSpec.ofChange fnPlanHeldSpec)

/-- ITS FALSE NEIGHBOUR: 'it returns false'. Refute it at one input. -/
def fnPlanHeldWrong : ChangeSpec := { name := "fnPlanHeld", fn := fun _ => fun
  | [d1, d2] => { results := [.lit (.bool false)], args := [d1, d2] }
  | _ => none }
def FnPlanHeldWrongFalsely : Prop := fnPlanHeldRow.holds Tryz.pinned (OpenSpec.ofChange fnPlanHeldWrong)

/-- 'laws.FnGloApart': WHATEVER THE INPUT: true; the input reads as it did. -/
def fnGloApartSpec : ChangeSpec := { name := "fnGloApart", fn := fun _ => fun
  | [d1, d2] => { results := [.lit (.bool true)], args := [d1, d2] }
  | _ => none }
def fnGloApartRow : OpenClaim := { program := "ytecdibpiojgppaagreat", sum := "ef9b6dec532f1410a44a822ac1af9c481981e4881984fc4bd8eab9f6792cd554", func := "loop.example/janitor/laws.FnGloApart", spec := "fnGloApart", inPlace := ["internal/bytealg.abigen_runtime_cmpstring", "slices.overlaps[loop.example/janitor/impl.StoItem]"], unfollowed := true, recurses := true, apart := false }
def FnGloApartSaid : Prop := fnGloApartRow.holds Tryz.pinned (OpenSpec.ofChange fnGloApartSpec)

/-- ITS FALSE NEIGHBOUR: 'it returns false'. Refute it at one input. -/
def fnGloApartWrong : ChangeSpec := { name := "fnGloApart", fn := fun _ => fun
  | [d1, d2] => { results := [.lit (.bool false)], args := [d1, d2] }
  | _ => none }
def FnGloApartWrongFalsely : Prop := fnGloApartRow.holds Tryz.pinned (OpenSpec.ofChange fnGloApartWrong)

/-- 'laws.FnExactPlcPlan': WHATEVER THE INPUT: true; the input reads as it did. -/
def fnExactPlcPlanSpec : ChangeSpec := { name := "fnExactPlcPlan", fn := fun _ => fun
  | [d1, d2, d3, d4] => { results := [.lit (.bool true)], args := [d1, d2, d3, d4] }
  | _ => none }
def fnExactPlcPlanRow : OpenClaim := { program := "ytecdibpiojgppaagreat", sum := "ef9b6dec532f1410a44a822ac1af9c481981e4881984fc4bd8eab9f6792cd554", func := "loop.example/janitor/laws.FnExactPlcPlan", spec := "fnExactPlcPlan", unfollowed := true, recurses := true, apart := false }
def FnExactPlcPlanSaid : Prop := fnExactPlcPlanRow.holds Tryz.pinned (OpenSpec.ofChange fnExactPlcPlanSpec)

/-- ITS FALSE NEIGHBOUR: 'it returns false'. Refute it at one input. -/
def fnExactPlcPlanWrong : ChangeSpec := { name := "fnExactPlcPlan", fn := fun _ => fun
  | [d1, d2, d3, d4] => { results := [.lit (.bool false)], args := [d1, d2, d3, d4] }
  | _ => none }
def FnExactPlcPlanWrongFalsely : Prop := fnExactPlcPlanRow.holds Tryz.pinned (OpenSpec.ofChange fnExactPlcPlanWrong)

/- THE SECOND FORM. 'bulk': how many values and letters a reading holds, each counted each time it is reached (what is shared counts as often as it is met; a slice's spare places count too). A statement '..UptoSaid' is the law's where the arguments, and the package variables that the reading takes, are together of bulk at most 1048576: NARROWER than '..Said'. Prove '..Said' where nothing that the law and all that it calls make is longer than what came in: it says more and counts as full. Else prove '..UptoSaid'. A law counts once. -/
mutual
def uptoBulk {H : Type} : DataW H → Nat
  | .lit (.string bytes) => bytes.length + 1
  | .lit _ => 1
  | .nil => 1
  | .ptr d => uptoBulk d + 1
  | .slice elems spare => uptoBulkAll elems + uptoBulkAll spare + 1
  | .agg parts => uptoBulkAll parts + 1
  | .iface _ d => uptoBulk d + 1
  | .map entries => uptoBulkEntries entries + 1
  | .held _ => 1
def uptoBulkAll {H : Type} : List (DataW H) → Nat
  | [] => 0
  | d :: r => uptoBulk d + uptoBulkAll r
def uptoBulkEntries {H : Type} : List (Lit × DataW H) → Nat
  | [] => 0
  | x :: r => uptoBulkEntry x + uptoBulkEntries r
def uptoBulkEntry {H : Type} : Lit × DataW H → Nat
  | (.string bytes, d) => bytes.length + uptoBulk d + 1
  | (_, d) => uptoBulk d + 1
 end
def uptoSmall : (H : Type) → List (DataW H) → Bool := fun _ ds => decide (uptoBulkAll ds ≤ 1048576)
def OpenSpec.upto (s : _root_.Go.ChangeSpec) : _root_.Go.OpenSpec := { _root_.Go.OpenSpec.ofChange s with cond := some uptoSmall }

/-- 'laws.FnPlanOnce', WHERE WHAT IT READS IS OF BULK AT MOST 1048576: true; the input reads as it did. -/
def fnPlanOnceUptoRow : OpenClaim := { program := "ytecdibpiojgppaagreat", sum := "ef9b6dec532f1410a44a822ac1af9c481981e4881984fc4bd8eab9f6792cd554", func := "loop.example/janitor/laws.FnPlanOnce", spec := "fnPlanOnce", inPlace := ["internal/bytealg.abigen_runtime_cmpstring", "slices.overlaps[loop.example/janitor/impl.StoItem]"], unfollowed := true, recurses := true, apart := false, narrowed := true }
def FnPlanOnceUptoSaid : Prop := fnPlanOnceUptoRow.holds Tryz.pinned (OpenSpec.upto fnPlanOnceSpec)

/-- 'laws.FnPlanHeld', WHERE WHAT IT READS IS OF BULK AT MOST 1048576: true; the input reads as it did. -/
def fnPlanHeldUptoRow : OpenClaim := { program := "ytecdibpiojgppaagreat", sum := "ef9b6dec532f1410a44a822ac1af9c481981e4881984fc4bd8eab9f6792cd554", func := "loop.example/janitor/laws.FnPlanHeld", spec := "fnPlanHeld", inPlace := ["internal/bytealg.abigen_runtime_cmpstring", "slices.overlaps[loop.example/janitor/impl.StoItem]"], unfollowed := true, recurses := true, apart := false, narrowed := true }
def FnPlanHeldUptoSaid : Prop := fnPlanHeldUptoRow.holds Tryz.pinned (OpenSpec.upto fnPlanHeldSpec)

/-- 'laws.FnGloApart', WHERE WHAT IT READS IS OF BULK AT MOST 1048576: true; the input reads as it did. -/
def fnGloApartUptoRow : OpenClaim := { program := "ytecdibpiojgppaagreat", sum := "ef9b6dec532f1410a44a822ac1af9c481981e4881984fc4bd8eab9f6792cd554", func := "loop.example/janitor/laws.FnGloApart", spec := "fnGloApart", inPlace := ["internal/bytealg.abigen_runtime_cmpstring", "slices.overlaps[loop.example/janitor/impl.StoItem]"], unfollowed := true, recurses := true, apart := false, narrowed := true }
def FnGloApartUptoSaid : Prop := fnGloApartUptoRow.holds Tryz.pinned (OpenSpec.upto fnGloApartSpec)

/-- 'laws.FnExactPlcPlan', WHERE WHAT IT READS IS OF BULK AT MOST 1048576: true; the input reads as it did. -/
def fnExactPlcPlanUptoRow : OpenClaim := { program := "ytecdibpiojgppaagreat", sum := "ef9b6dec532f1410a44a822ac1af9c481981e4881984fc4bd8eab9f6792cd554", func := "loop.example/janitor/laws.FnExactPlcPlan", spec := "fnExactPlcPlan", unfollowed := true, recurses := true, apart := false, narrowed := true }
def FnExactPlcPlanUptoSaid : Prop := fnExactPlcPlanUptoRow.holds Tryz.pinned (OpenSpec.upto fnExactPlcPlanSpec)

end Rows
end Go.Proofs.YtecdibpiojgppaaGreat
