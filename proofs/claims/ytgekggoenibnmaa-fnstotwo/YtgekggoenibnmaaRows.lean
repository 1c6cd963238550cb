/-
  No cell of these rows narrows 'for every input' (looked for: loops, veiled, ifaces, maps, wideKeys, modest, calm, conditions, laid).
  DERIVED. THE GIVEN ROWS OF THIS SEAT. 10 by the template 'for every input the law returns true; each argument reads behind the call as it read before'; 0 by the template 'total and deterministic' (their statements: YtgekggoenibnmaaTotals.lean).
  GIVEN WITH THE SEED: the statements are not yours to turn. If you find one false, say at which input.
  Laid BY PROGRAM, IN A SANDBOX (cutbox-rows.mjs): the forced cells as the released guide's own fill.sh prints them over the translation a5c1b1b2c2ad639b… (all of the seat's roots in one cut). By AI agents, Wed Nov 11 2026. No macro, syntax, notation, axiom, sorry.
-/
import Derived.Test.YtgekggoenibnmaaChecked
import GoSem.Claim
import GoSem.ClaimJoined
import GoSem.ClaimMapViews
import Derived.JoinedTies
import Derived.KernelRfl
namespace Go.Proofs.Ytgekggoenibnmaa
/- THE CELL 'sum', in the pinned program and in every row, IS THE sha256 OF THE DUMP (.gsa) THAT YtgekggoenibnmaaProg.lean LOADS. Nothing in Lean hashes anything: it is a label: what it is worth is what the hold of that sum in a sandbox is worth. -/
noncomputable def Try.pinned : Pinned := { name := "ytgekggoenibnmaa", sum := "a5c1b1b2c2ad639baee94d16ae679860213b6ac7d6e07973c01f3aced5c283c6", checked := Try.checked }
namespace Rows
def none {H : Type} : Left H := { results := [], args := [] }

/-- 'laws.FnExactGloNew': WHATEVER THE INPUT: true; the input reads as it did. -/
def fnExactGloNewSpec : ChangeSpec := { name := "fnExactGloNew", fn := fun _ => fun
  | [] => { results := [.lit (.bool true)], args := [] }
  | _ => none }
def fnExactGloNewRow : OpenClaim := { program := "ytgekggoenibnmaa", sum := "a5c1b1b2c2ad639baee94d16ae679860213b6ac7d6e07973c01f3aced5c283c6", func := "loop.example/janitor/laws.FnExactGloNew", spec := "fnExactGloNew", apart := false }
def FnExactGloNewSaid : Prop := fnExactGloNewRow.holds Try.pinned (OpenSpec.ofChange fnExactGloNewSpec)

/-- ITS FALSE NEIGHBOUR: 'it returns false'. Refute it at one input. -/
def fnExactGloNewWrong : ChangeSpec := { name := "fnExactGloNew", fn := fun _ => fun
  | [] => { results := [.lit (.bool false)], args := [] }
  | _ => none }
def FnExactGloNewWrongFalsely : Prop := fnExactGloNewRow.holds Try.pinned (OpenSpec.ofChange fnExactGloNewWrong)

/-- 'laws.FnExactGloOk': WHATEVER THE INPUT: true; the input reads as it did. -/
def fnExactGloOkSpec : ChangeSpec := { name := "fnExactGloOk", fn := fun _ => fun
  | [d] => { results := [.lit (.bool true)], args := [d] }
  | _ => none }
def fnExactGloOkRow : OpenClaim := { program := "ytgekggoenibnmaa", sum := "a5c1b1b2c2ad639baee94d16ae679860213b6ac7d6e07973c01f3aced5c283c6", func := "loop.example/janitor/laws.FnExactGloOk", spec := "fnExactGloOk", unfollowed := true, recurses := true, apart := false }
def FnExactGloOkSaid : Prop := fnExactGloOkRow.holds Try.pinned (OpenSpec.ofChange fnExactGloOkSpec)

/-- ITS FALSE NEIGHBOUR: 'it returns false'. Refute it at one input. -/
def fnExactGloOkWrong : ChangeSpec := { name := "fnExactGloOk", fn := fun _ => fun
  | [d] => { results := [.lit (.bool false)], args := [d] }
  | _ => none }
def FnExactGloOkWrongFalsely : Prop := fnExactGloOkRow.holds Try.pinned (OpenSpec.ofChange fnExactGloOkWrong)

/-- 'laws.FnExactStoDo': WHATEVER THE INPUT: true; the input reads as it did. -/
def fnExactStoDoSpec : ChangeSpec := { name := "fnExactStoDo", fn := fun _ => fun
  | [d1, d2] => { results := [.lit (.bool true)], args := [d1, d2] }
  | _ => none }
def fnExactStoDoRow : OpenClaim := { program := "ytgekggoenibnmaa", sum := "a5c1b1b2c2ad639baee94d16ae679860213b6ac7d6e07973c01f3aced5c283c6", func := "loop.example/janitor/laws.FnExactStoDo", spec := "fnExactStoDo", inPlace := ["internal/bytealg.abigen_runtime_cmpstring", "slices.overlaps[loop.example/janitor/impl.StoItem]"], unfollowed := true, recurses := true, apart := false }
def FnExactStoDoSaid : Prop := fnExactStoDoRow.holds Try.pinned (OpenSpec.ofChange fnExactStoDoSpec)

/-- ITS FALSE NEIGHBOUR: 'it returns false'. Refute it at one input. -/
def fnExactStoDoWrong : ChangeSpec := { name := "fnExactStoDo", fn := fun _ => fun
  | [d1, d2] => { results := [.lit (.bool false)], args := [d1, d2] }
  | _ => none }
def FnExactStoDoWrongFalsely : Prop := fnExactStoDoRow.holds Try.pinned (OpenSpec.ofChange fnExactStoDoWrong)

/-- 'laws.FnStoDo': WHATEVER THE INPUT: true; the input reads as it did. -/
def fnStoDoSpec : ChangeSpec := { name := "fnStoDo", fn := fun _ => fun
  | [d] => { results := [.lit (.bool true)], args := [d] }
  | _ => none }
def fnStoDoRow : OpenClaim := { program := "ytgekggoenibnmaa", sum := "a5c1b1b2c2ad639baee94d16ae679860213b6ac7d6e07973c01f3aced5c283c6", func := "loop.example/janitor/laws.FnStoDo", spec := "fnStoDo", inPlace := ["internal/bytealg.abigen_runtime_cmpstring", "slices.overlaps[loop.example/janitor/impl.StoItem]"], unfollowed := true, recurses := true, apart := false }
def FnStoDoSaid : Prop := fnStoDoRow.holds Try.pinned (OpenSpec.ofChange fnStoDoSpec)

/-- ITS FALSE NEIGHBOUR: 'it returns false'. Refute it at one input. -/
def fnStoDoWrong : ChangeSpec := { name := "fnStoDo", fn := fun _ => fun
  | [d] => { results := [.lit (.bool false)], args := [d] }
  | _ => none }
def FnStoDoWrongFalsely : Prop := fnStoDoRow.holds Try.pinned (OpenSpec.ofChange fnStoDoWrong)

/-- 'laws.FnStoTwo': WHATEVER THE INPUT: true; the input reads as it did. -/
def fnStoTwoSpec : ChangeSpec := { name := "fnStoTwo", fn := fun _ => fun
  | [d1, d2] => { results := [.lit (.bool true)], args := [d1, d2] }
  | _ => none }
def fnStoTwoRow : OpenClaim := { program := "ytgekggoenibnmaa", sum := "a5c1b1b2c2ad639baee94d16ae679860213b6ac7d6e07973c01f3aced5c283c6", func := "loop.example/janitor/laws.FnStoTwo", spec := "fnStoTwo", inPlace := ["internal/bytealg.abigen_runtime_cmpstring", "slices.overlaps[loop.example/janitor/impl.StoItem]"], unfollowed := true, recurses := true, apart := false }
def FnStoTwoSaid : Prop := fnStoTwoRow.holds Try.pinned (OpenSpec.ofChange fnStoTwoSpec)

/-- ITS FALSE NEIGHBOUR: 'it returns false'. Refute it at one input. -/
def fnStoTwoWrong : ChangeSpec := { name := "fnStoTwo", fn := fun _ => fun
  | [d1, d2] => { results := [.lit (.bool false)], args := [d1, d2] }
  | _ => none }
def FnStoTwoWrongFalsely : Prop := fnStoTwoRow.holds Try.pinned (OpenSpec.ofChange fnStoTwoWrong)

/-- 'laws.FnStoAgain': WHATEVER THE INPUT: true; the input reads as it did. -/
def fnStoAgainSpec : ChangeSpec := { name := "fnStoAgain", fn := fun _ => fun
  | [d] => { results := [.lit (.bool true)], args := [d] }
  | _ => none }
def fnStoAgainRow : OpenClaim := { program := "ytgekggoenibnmaa", sum := "a5c1b1b2c2ad639baee94d16ae679860213b6ac7d6e07973c01f3aced5c283c6", func := "loop.example/janitor/laws.FnStoAgain", spec := "fnStoAgain", inPlace := ["internal/bytealg.abigen_runtime_cmpstring", "slices.overlaps[loop.example/janitor/impl.StoItem]"], unfollowed := true, recurses := true, apart := false }
def FnStoAgainSaid : Prop := fnStoAgainRow.holds Try.pinned (OpenSpec.ofChange fnStoAgainSpec)

/-- ITS FALSE NEIGHBOUR: 'it returns false'. Refute it at one input. -/
def fnStoAgainWrong : ChangeSpec := { name := "fnStoAgain", fn := fun _ => fun
  | [d] => { results := [.lit (.bool false)], args := [d] }
  | _ => none }
def FnStoAgainWrongFalsely : Prop := fnStoAgainRow.holds Try.pinned (OpenSpec.ofChange fnStoAgainWrong)

/-- 'laws.FnPlcOk': WHATEVER THE INPUT: true; the input reads as it did. -/
def fnPlcOkSpec : ChangeSpec := { name := "fnPlcOk", fn := fun _ => fun
  | [d] => { results := [.lit (.bool true)], args := [d] }
  | _ => none }
def fnPlcOkRow : OpenClaim := { program := "ytgekggoenibnmaa", sum := "a5c1b1b2c2ad639baee94d16ae679860213b6ac7d6e07973c01f3aced5c283c6", func := "loop.example/janitor/laws.FnPlcOk", spec := "fnPlcOk", unfollowed := true, recurses := true, apart := false }
def FnPlcOkSaid : Prop := fnPlcOkRow.holds Try.pinned (OpenSpec.ofChange fnPlcOkSpec)

/-- ITS FALSE NEIGHBOUR: 'it returns false'. Refute it at one input. -/
def fnPlcOkWrong : ChangeSpec := { name := "fnPlcOk", fn := fun _ => fun
  | [d] => { results := [.lit (.bool false)], args := [d] }
  | _ => none }
def FnPlcOkWrongFalsely : Prop := fnPlcOkRow.holds Try.pinned (OpenSpec.ofChange fnPlcOkWrong)

/-- 'laws.FnGloWay': WHATEVER THE INPUT: true; the input reads as it did. -/
def fnGloWaySpec : ChangeSpec := { name := "fnGloWay", fn := fun _ => fun
  | [d] => { results := [.lit (.bool true)], args := [d] }
  | _ => none }
def fnGloWayRow : OpenClaim := { program := "ytgekggoenibnmaa", sum := "a5c1b1b2c2ad639baee94d16ae679860213b6ac7d6e07973c01f3aced5c283c6", func := "loop.example/janitor/laws.FnGloWay", spec := "fnGloWay", inPlace := ["internal/bytealg.abigen_runtime_cmpstring", "slices.overlaps[loop.example/janitor/impl.StoItem]"], unfollowed := true, recurses := true, apart := false }
def FnGloWaySaid : Prop := fnGloWayRow.holds Try.pinned (OpenSpec.ofChange fnGloWaySpec)

/-- ITS FALSE NEIGHBOUR: 'it returns false'. Refute it at one input. -/
def fnGloWayWrong : ChangeSpec := { name := "fnGloWay", fn := fun _ => fun
  | [d] => { results := [.lit (.bool false)], args := [d] }
  | _ => none }
def FnGloWayWrongFalsely : Prop := fnGloWayRow.holds Try.pinned (OpenSpec.ofChange fnGloWayWrong)

/-- 'laws.FnGloTheft': WHATEVER THE INPUT: true; the input reads as it did. -/
def fnGloTheftSpec : ChangeSpec := { name := "fnGloTheft", fn := fun _ => fun
  | [d] => { results := [.lit (.bool true)], args := [d] }
  | _ => none }
def fnGloTheftRow : OpenClaim := { program := "ytgekggoenibnmaa", sum := "a5c1b1b2c2ad639baee94d16ae679860213b6ac7d6e07973c01f3aced5c283c6", func := "loop.example/janitor/laws.FnGloTheft", spec := "fnGloTheft", inPlace := ["internal/bytealg.abigen_runtime_cmpstring", "slices.overlaps[loop.example/janitor/impl.StoItem]"], unfollowed := true, recurses := true, apart := false }
def FnGloTheftSaid : Prop := fnGloTheftRow.holds Try.pinned (OpenSpec.ofChange fnGloTheftSpec)

/-- ITS FALSE NEIGHBOUR: 'it returns false'. Refute it at one input. -/
def fnGloTheftWrong : ChangeSpec := { name := "fnGloTheft", fn := fun _ => fun
  | [d] => { results := [.lit (.bool false)], args := [d] }
  | _ => none }
def FnGloTheftWrongFalsely : Prop := fnGloTheftRow.holds Try.pinned (OpenSpec.ofChange fnGloTheftWrong)

/-- 'laws.FnPlanTx': WHATEVER THE INPUT: true; the input reads as it did. -/
def fnPlanTxSpec : ChangeSpec := { name := "fnPlanTx", fn := fun _ => fun
  | [d] => { results := [.lit (.bool true)], args := [d] }
  | _ => none }
def fnPlanTxRow : OpenClaim := { program := "ytgekggoenibnmaa", sum := "a5c1b1b2c2ad639baee94d16ae679860213b6ac7d6e07973c01f3aced5c283c6", func := "loop.example/janitor/laws.FnPlanTx", spec := "fnPlanTx", unfollowed := true, recurses := true, apart := false }
def FnPlanTxSaid : Prop := fnPlanTxRow.holds Try.pinned (OpenSpec.ofChange fnPlanTxSpec)

/-- ITS FALSE NEIGHBOUR: 'it returns false'. Refute it at one input. -/
def fnPlanTxWrong : ChangeSpec := { name := "fnPlanTx", fn := fun _ => fun
  | [d] => { results := [.lit (.bool false)], args := [d] }
  | _ => none }
def FnPlanTxWrongFalsely : Prop := fnPlanTxRow.holds Try.pinned (OpenSpec.ofChange fnPlanTxWrong)

/- THE SECOND FORM. 'bulk': how many values and letters a reading holds, each counted each time it is reached (what is shared counts as often as it is met; a slice's spare places count too). A statement '..UptoSaid' is the law's where the arguments, and the package variables that the reading takes, are together of bulk at most 1048576: NARROWER than '..Said'. Prove '..Said' where nothing that the law and all that it calls make is longer than what came in: it says more and counts as full. Else prove '..UptoSaid'. A law counts once. -/
mutual
def uptoBulk {H : Type} : DataW H → Nat
  | .lit (.string bytes) => bytes.length + 1
  | .lit _ => 1
  | .nil => 1
  | .ptr d => uptoBulk d + 1
  | .slice elems spare => uptoBulkAll elems + uptoBulkAll spare + 1
  | .agg parts => uptoBulkAll parts + 1
  | .iface _ d => uptoBulk d + 1
  | .map entries => uptoBulkEntries entries + 1
  | .held _ => 1
def uptoBulkAll {H : Type} : List (DataW H) → Nat
  | [] => 0
  | d :: r => uptoBulk d + uptoBulkAll r
def uptoBulkEntries {H : Type} : List (Lit × DataW H) → Nat
  | [] => 0
  | x :: r => uptoBulkEntry x + uptoBulkEntries r
def uptoBulkEntry {H : Type} : Lit × DataW H → Nat
  | (.string bytes, d) => bytes.length + uptoBulk d + 1
  | (_, d) => uptoBulk d + 1
 end
def uptoSmall : (H : Type) → List (DataW H) → Bool := fun _ ds => decide (uptoBulkAll ds ≤ 1048576)
def OpenSpec.upto (s : _root_.Go.ChangeSpec) : _root_.Go.OpenSpec := { _root_.Go.OpenSpec.ofChange s with cond := some uptoSmall }

/-- 'laws.FnExactGloNew', WHERE WHAT IT READS IS OF BULK AT MOST 1048576: true; the input reads as it did. -/
def fnExactGloNewUptoRow : OpenClaim := { program := "ytgekggoenibnmaa", sum := "a5c1b1b2c2ad639baee94d16ae679860213b6ac7d6e07973c01f3aced5c283c6", func := "loop.example/janitor/laws.FnExactGloNew", spec := "fnExactGloNew", apart := false, narrowed := true }
def FnExactGloNewUptoSaid : Prop := fnExactGloNewUptoRow.holds Try.pinned (OpenSpec.upto fnExactGloNewSpec)

/-- 'laws.FnExactGloOk', WHERE WHAT IT READS IS OF BULK AT MOST 1048576: true; the input reads as it did. -/
def fnExactGloOkUptoRow : OpenClaim := { program := "ytgekggoenibnmaa", sum := "a5c1b1b2c2ad639baee94d16ae679860213b6ac7d6e07973c01f3aced5c283c6", func := "loop.example/janitor/laws.FnExactGloOk", spec := "fnExactGloOk", unfollowed := true, recurses := true, apart := false, narrowed := true }
def FnExactGloOkUptoSaid : Prop := fnExactGloOkUptoRow.holds Try.pinned (OpenSpec.upto fnExactGloOkSpec)

/-- 'laws.FnExactStoDo', WHERE WHAT IT READS IS OF BULK AT MOST 1048576: true; the input reads as it did. -/
def fnExactStoDoUptoRow : OpenClaim := { program := "ytgekggoenibnmaa", sum := "a5c1b1b2c2ad639baee94d16ae679860213b6ac7d6e07973c01f3aced5c283c6", func := "loop.example/janitor/laws.FnExactStoDo", spec := "fnExactStoDo", inPlace := ["internal/bytealg.abigen_runtime_cmpstring", "slices.overlaps[loop.example/janitor/impl.StoItem]"], unfollowed := true, recurses := true, apart := false, narrowed := true }
def FnExactStoDoUptoSaid : Prop := fnExactStoDoUptoRow.holds Try.pinned (OpenSpec.upto fnExactStoDoSpec)

/-- 'laws.FnStoDo', WHERE WHAT IT READS IS OF BULK AT MOST 1048576: true; the input reads as it did. -/
def fnStoDoUptoRow : OpenClaim := { program := "ytgekggoenibnmaa", sum := "a5c1b1b2c2ad639baee94d16ae679860213b6ac7d6e07973c01f3aced5c283c6", func := "loop.example/janitor/laws.FnStoDo", spec := "fnStoDo", inPlace := ["internal/bytealg.abigen_runtime_cmpstring", "slices.overlaps[loop.example/janitor/impl.StoItem]"], unfollowed := true, recurses := true, apart := false, narrowed := true }
def FnStoDoUptoSaid : Prop := fnStoDoUptoRow.holds Try.pinned (OpenSpec.upto fnStoDoSpec)

/-- 'laws.FnStoTwo', WHERE WHAT IT READS IS OF BULK AT MOST 1048576: true; the input reads as it did. -/
def fnStoTwoUptoRow : OpenClaim := { program := "ytgekggoenibnmaa", sum := "a5c1b1b2c2ad639baee94d16ae679860213b6ac7d6e07973c01f3aced5c283c6", func := "loop.example/janitor/laws.FnStoTwo", spec := "fnStoTwo", inPlace := ["internal/bytealg.abigen_runtime_cmpstring", "slices.overlaps[loop.example/janitor/impl.StoItem]"], unfollowed := true, recurses := true, apart := false, narrowed := true }
def FnStoTwoUptoSaid : Prop := fnStoTwoUptoRow.holds Try.pinned (OpenSpec.upto fnStoTwoSpec)

/-- 'laws.FnStoAgain', WHERE WHAT IT READS IS OF BULK AT MOST 1048576: true; the input reads as it did. -/
def fnStoAgainUptoRow : OpenClaim := { program := "ytgekggoenibnmaa", sum := "a5c1b1b2c2ad639baee94d16ae679860213b6ac7d6e07973c01f3aced5c283c6", func := "loop.example/janitor/laws.FnStoAgain", spec := "fnStoAgain", inPlace := ["internal/bytealg.abigen_runtime_cmpstring", "slices.overlaps[loop.example/janitor/impl.StoItem]"], unfollowed := true, recurses := true, apart := false, narrowed := true }
def FnStoAgainUptoSaid : Prop := fnStoAgainUptoRow.holds Try.pinned (OpenSpec.upto fnStoAgainSpec)

/-- 'laws.FnPlcOk', WHERE WHAT IT READS IS OF BULK AT MOST 1048576: true; the input reads as it did. -/
def fnPlcOkUptoRow : OpenClaim := { program := "ytgekggoenibnmaa", sum := "a5c1b1b2c2ad639baee94d16ae679860213b6ac7d6e07973c01f3aced5c283c6", func := "loop.example/janitor/laws.FnPlcOk", spec := "fnPlcOk", unfollowed := true, recurses := true, apart := false, narrowed := true }
def FnPlcOkUptoSaid : Prop := fnPlcOkUptoRow.holds Try.pinned (OpenSpec.upto fnPlcOkSpec)

/-- 'laws.FnGloWay', WHERE WHAT IT READS IS OF BULK AT MOST 1048576: true; the input reads as it did. -/
def fnGloWayUptoRow : OpenClaim := { program := "ytgekggoenibnmaa", sum := "a5c1b1b2c2ad639baee94d16ae679860213b6ac7d6e07973c01f3aced5c283c6", func := "loop.example/janitor/laws.FnGloWay", spec := "fnGloWay", inPlace := ["internal/bytealg.abigen_runtime_cmpstring", "slices.overlaps[loop.example/janitor/impl.StoItem]"], unfollowed := true, recurses := true, apart := false, narrowed := true }
def FnGloWayUptoSaid : Prop := fnGloWayUptoRow.holds Try.pinned (OpenSpec.upto fnGloWaySpec)

/-- 'laws.FnGloTheft', WHERE WHAT IT READS IS OF BULK AT MOST 1048576: true; the input reads as it did. -/
def fnGloTheftUptoRow : OpenClaim := { program := "ytgekggoenibnmaa", sum := "a5c1b1b2c2ad639baee94d16ae679860213b6ac7d6e07973c01f3aced5c283c6", func := "loop.example/janitor/laws.FnGloTheft", spec := "fnGloTheft", inPlace := ["internal/bytealg.abigen_runtime_cmpstring", "slices.overlaps[loop.example/janitor/impl.StoItem]"], unfollowed := true, recurses := true, apart := false, narrowed := true }
def FnGloTheftUptoSaid : Prop := fnGloTheftUptoRow.holds Try.pinned (OpenSpec.upto fnGloTheftSpec)

/-- 'laws.FnPlanTx', WHERE WHAT IT READS IS OF BULK AT MOST 1048576: true; the input reads as it did. -/
def fnPlanTxUptoRow : OpenClaim := { program := "ytgekggoenibnmaa", sum := "a5c1b1b2c2ad639baee94d16ae679860213b6ac7d6e07973c01f3aced5c283c6", func := "loop.example/janitor/laws.FnPlanTx", spec := "fnPlanTx", unfollowed := true, recurses := true, apart := false, narrowed := true }
def FnPlanTxUptoSaid : Prop := fnPlanTxUptoRow.holds Try.pinned (OpenSpec.upto fnPlanTxSpec)

end Rows
end Go.Proofs.Ytgekggoenibnmaa
