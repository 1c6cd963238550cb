/-
  No cell of these rows narrows 'for every input' (looked for: loops, veiled, ifaces, maps, wideKeys, modest, calm, conditions, laid).
  DERIVED. THE GIVEN ROWS OF THIS SEAT. 6 by the template 'for every input the law returns true; each argument reads behind the call as it read before'; 0 by the template 'total and deterministic' (their statements: YteccebjnopladaaTotals.lean).
  GIVEN WITH THE SEED: the statements are not yours to turn. If you find one false, say at which input.
  Laid BY PROGRAM, IN A SANDBOX (cutbox-rows.mjs): the forced cells as the released guide's own fill.sh prints them over the translation cf734f1d1a062203… (all of the seat's roots in one cut). By AI agents, Wed Nov 11 2026. No macro, syntax, notation, axiom, sorry.
-/
import Derived.Test.YteccebjnopladaaChecked
import GoSem.Claim
import GoSem.ClaimJoined
import GoSem.ClaimMapViews
import Derived.JoinedTies
import Derived.KernelRfl
namespace Go.Proofs.Yteccebjnopladaa
/- THE CELL 'sum', in the pinned program and in every row, IS THE sha256 OF THE DUMP (.gsa) THAT YteccebjnopladaaProg.lean LOADS. Nothing in Lean hashes anything: it is a label: what it is worth is what the hold of that sum in a sandbox is worth. -/
noncomputable def Try.pinned : Pinned := { name := "yteccebjnopladaa", sum := "cf734f1d1a0622030746240baf7528a86b554bad04490c0301b97376d0049cdd", checked := Try.checked }
namespace Rows
def none {H : Type} : Left H := { results := [], args := [] }

/-- 'laws.FnPlcOk': WHATEVER THE INPUT: true; the input reads as it did. -/
def fnPlcOkSpec : ChangeSpec := { name := "fnPlcOk", fn := fun _ => fun
  | [d] => { results := [.lit (.bool true)], args := [d] }
  | _ => none }
def fnPlcOkRow : OpenClaim := { program := "yteccebjnopladaa", sum := "cf734f1d1a0622030746240baf7528a86b554bad04490c0301b97376d0049cdd", func := "loop.example/janitor/laws.FnPlcOk", spec := "fnPlcOk", unfollowed := true, recurses := true, apart := false }
def FnPlcOkSaid : Prop := fnPlcOkRow.holds Try.pinned (OpenSpec.ofChange fnPlcOkSpec)

/-- ITS FALSE NEIGHBOUR: 'it returns false'. Refute it at one input. -/
def fnPlcOkWrong : ChangeSpec := { name := "fnPlcOk", fn := fun _ => fun
  | [d] => { results := [.lit (.bool false)], args := [d] }
  | _ => none }
def FnPlcOkWrongFalsely : Prop := fnPlcOkRow.holds Try.pinned (OpenSpec.ofChange fnPlcOkWrong)

/-- 'laws.FnGloOk': WHATEVER THE INPUT: true; the input reads as it did. -/
def fnGloOkSpec : ChangeSpec := { name := "fnGloOk", fn := fun _ => fun
  | [d] => { results := [.lit (.bool true)], args := [d] }
  | _ => none }
def fnGloOkRow : OpenClaim := { program := "yteccebjnopladaa", sum := "cf734f1d1a0622030746240baf7528a86b554bad04490c0301b97376d0049cdd", func := "loop.example/janitor/laws.FnGloOk", spec := "fnGloOk", unfollowed := true, recurses := true, apart := false }
def FnGloOkSaid : Prop := fnGloOkRow.holds Try.pinned (OpenSpec.ofChange fnGloOkSpec)

/-- ITS FALSE NEIGHBOUR: 'it returns false'. Refute it at one input. -/
def fnGloOkWrong : ChangeSpec := { name := "fnGloOk", fn := fun _ => fun
  | [d] => { results := [.lit (.bool false)], args := [d] }
  | _ => none }
def FnGloOkWrongFalsely : Prop := fnGloOkRow.holds Try.pinned (OpenSpec.ofChange fnGloOkWrong)

/-- 'laws.FnPlanLet': WHATEVER THE INPUT: true; the input reads as it did. -/
def fnPlanLetSpec : ChangeSpec := { name := "fnPlanLet", fn := fun _ => fun
  | [d] => { results := [.lit (.bool true)], args := [d] }
  | _ => none }
def fnPlanLetRow : OpenClaim := { program := "yteccebjnopladaa", sum := "cf734f1d1a0622030746240baf7528a86b554bad04490c0301b97376d0049cdd", func := "loop.example/janitor/laws.FnPlanLet", spec := "fnPlanLet", inPlace := ["internal/bytealg.abigen_runtime_cmpstring"], unfollowed := true, recurses := true, apart := false }
def FnPlanLetSaid : Prop := fnPlanLetRow.holds Try.pinned (OpenSpec.ofChange fnPlanLetSpec)

/-- ITS FALSE NEIGHBOUR: 'it returns false'. Refute it at one input. -/
def fnPlanLetWrong : ChangeSpec := { name := "fnPlanLet", fn := fun _ => fun
  | [d] => { results := [.lit (.bool false)], args := [d] }
  | _ => none }
def FnPlanLetWrongFalsely : Prop := fnPlanLetRow.holds Try.pinned (OpenSpec.ofChange fnPlanLetWrong)

/-- 'laws.FnPlanOut': WHATEVER THE INPUT: true; the input reads as it did. -/
def fnPlanOutSpec : ChangeSpec := { name := "fnPlanOut", fn := fun _ => fun
  | [d] => { results := [.lit (.bool true)], args := [d] }
  | _ => none }
def fnPlanOutRow : OpenClaim := { program := "yteccebjnopladaa", sum := "cf734f1d1a0622030746240baf7528a86b554bad04490c0301b97376d0049cdd", func := "loop.example/janitor/laws.FnPlanOut", spec := "fnPlanOut", unfollowed := true, recurses := true, apart := false }
def FnPlanOutSaid : Prop := fnPlanOutRow.holds Try.pinned (OpenSpec.ofChange fnPlanOutSpec)

/-- ITS FALSE NEIGHBOUR: 'it returns false'. Refute it at one input. -/
def fnPlanOutWrong : ChangeSpec := { name := "fnPlanOut", fn := fun _ => fun
  | [d] => { results := [.lit (.bool false)], args := [d] }
  | _ => none }
def FnPlanOutWrongFalsely : Prop := fnPlanOutRow.holds Try.pinned (OpenSpec.ofChange fnPlanOutWrong)

/-- 'laws.FnPlanTx': WHATEVER THE INPUT: true; the input reads as it did. -/
def fnPlanTxSpec : ChangeSpec := { name := "fnPlanTx", fn := fun _ => fun
  | [d] => { results := [.lit (.bool true)], args := [d] }
  | _ => none }
def fnPlanTxRow : OpenClaim := { program := "yteccebjnopladaa", sum := "cf734f1d1a0622030746240baf7528a86b554bad04490c0301b97376d0049cdd", func := "loop.example/janitor/laws.FnPlanTx", spec := "fnPlanTx", unfollowed := true, recurses := true, apart := false }
def FnPlanTxSaid : Prop := fnPlanTxRow.holds Try.pinned (OpenSpec.ofChange fnPlanTxSpec)

/-- ITS FALSE NEIGHBOUR: 'it returns false'. Refute it at one input. -/
def fnPlanTxWrong : ChangeSpec := { name := "fnPlanTx", fn := fun _ => fun
  | [d] => { results := [.lit (.bool false)], args := [d] }
  | _ => none }
def FnPlanTxWrongFalsely : Prop := fnPlanTxRow.holds Try.pinned (OpenSpec.ofChange fnPlanTxWrong)

/-- 'laws.FnPlanSec': WHATEVER THE INPUT: true; the input reads as it did. -/
def fnPlanSecSpec : ChangeSpec := { name := "fnPlanSec", fn := fun _ => fun
  | [d] => { results := [.lit (.bool true)], args := [d] }
  | _ => none }
def fnPlanSecRow : OpenClaim := { program := "yteccebjnopladaa", sum := "cf734f1d1a0622030746240baf7528a86b554bad04490c0301b97376d0049cdd", func := "loop.example/janitor/laws.FnPlanSec", spec := "fnPlanSec", inPlace := ["internal/bytealg.abigen_runtime_cmpstring"], unfollowed := true, recurses := true, apart := false }
def FnPlanSecSaid : Prop := fnPlanSecRow.holds Try.pinned (OpenSpec.ofChange fnPlanSecSpec)

/-- ITS FALSE NEIGHBOUR: 'it returns false'. Refute it at one input. -/
def fnPlanSecWrong : ChangeSpec := { name := "fnPlanSec", fn := fun _ => fun
  | [d] => { results := [.lit (.bool false)], args := [d] }
  | _ => none }
def FnPlanSecWrongFalsely : Prop := fnPlanSecRow.holds Try.pinned (OpenSpec.ofChange fnPlanSecWrong)

/- THE SECOND FORM. 'bulk': how many values and letters a reading holds, each counted each time it is reached (what is shared counts as often as it is met; a slice's spare places count too). A statement '..UptoSaid' is the law's where the arguments, and the package variables that the reading takes, are together of bulk at most 1048576: NARROWER than '..Said'. Prove '..Said' where nothing that the law and all that it calls make is longer than what came in: it says more and counts as full. Else prove '..UptoSaid'. A law counts once. -/
mutual
def uptoBulk {H : Type} : DataW H → Nat
  | .lit (.string bytes) => bytes.length + 1
  | .lit _ => 1
  | .nil => 1
  | .ptr d => uptoBulk d + 1
  | .slice elems spare => uptoBulkAll elems + uptoBulkAll spare + 1
  | .agg parts => uptoBulkAll parts + 1
  | .iface _ d => uptoBulk d + 1
  | .map entries => uptoBulkEntries entries + 1
  | .held _ => 1
def uptoBulkAll {H : Type} : List (DataW H) → Nat
  | [] => 0
  | d :: r => uptoBulk d + uptoBulkAll r
def uptoBulkEntries {H : Type} : List (Lit × DataW H) → Nat
  | [] => 0
  | x :: r => uptoBulkEntry x + uptoBulkEntries r
def uptoBulkEntry {H : Type} : Lit × DataW H → Nat
  | (.string bytes, d) => bytes.length + uptoBulk d + 1
  | (_, d) => uptoBulk d + 1
 end
def uptoSmall : (H : Type) → List (DataW H) → Bool := fun _ ds => decide (uptoBulkAll ds ≤ 1048576)
def OpenSpec.upto (s : _root_.Go.ChangeSpec) : _root_.Go.OpenSpec := { _root_.Go.OpenSpec.ofChange s with cond := some uptoSmall }

/-- 'laws.FnPlcOk', WHERE WHAT IT READS IS OF BULK AT MOST 1048576: true; the input reads as it did. -/
def fnPlcOkUptoRow : OpenClaim := { program := "yteccebjnopladaa", sum := "cf734f1d1a0622030746240baf7528a86b554bad04490c0301b97376d0049cdd", func := "loop.example/janitor/laws.FnPlcOk", spec := "fnPlcOk", unfollowed := true, recurses := true, apart := false, narrowed := true }
def FnPlcOkUptoSaid : Prop := fnPlcOkUptoRow.holds Try.pinned (OpenSpec.upto fnPlcOkSpec)

/-- 'laws.FnGloOk', WHERE WHAT IT READS IS OF BULK AT MOST 1048576: true; the input reads as it did. -/
def fnGloOkUptoRow : OpenClaim := { program := "yteccebjnopladaa", sum := "cf734f1d1a0622030746240baf7528a86b554bad04490c0301b97376d0049cdd", func := "loop.example/janitor/laws.FnGloOk", spec := "fnGloOk", unfollowed := true, recurses := true, apart := false, narrowed := true }
def FnGloOkUptoSaid : Prop := fnGloOkUptoRow.holds Try.pinned (OpenSpec.upto fnGloOkSpec)

/-- 'laws.FnPlanLet', WHERE WHAT IT READS IS OF BULK AT MOST 1048576: true; the input reads as it did. -/
def fnPlanLetUptoRow : OpenClaim := { program := "yteccebjnopladaa", sum := "cf734f1d1a0622030746240baf7528a86b554bad04490c0301b97376d0049cdd", func := "loop.example/janitor/laws.FnPlanLet", spec := "fnPlanLet", inPlace := ["internal/bytealg.abigen_runtime_cmpstring"], unfollowed := true, recurses := true, apart := false, narrowed := true }
def FnPlanLetUptoSaid : Prop := fnPlanLetUptoRow.holds Try.pinned (OpenSpec.upto fnPlanLetSpec)

/-- 'laws.FnPlanOut', WHERE WHAT IT READS IS OF BULK AT MOST 1048576: true; the input reads as it did. -/
def fnPlanOutUptoRow : OpenClaim := { program := "yteccebjnopladaa", sum := "cf734f1d1a0622030746240baf7528a86b554bad04490c0301b97376d0049cdd", func := "loop.example/janitor/laws.FnPlanOut", spec := "fnPlanOut", unfollowed := true, recurses := true, apart := false, narrowed := true }
def FnPlanOutUptoSaid : Prop := fnPlanOutUptoRow.holds Try.pinned (OpenSpec.upto fnPlanOutSpec)

/-- 'laws.FnPlanTx', WHERE WHAT IT READS IS OF BULK AT MOST 1048576: true; the input reads as it did. -/
def fnPlanTxUptoRow : OpenClaim := { program := "yteccebjnopladaa", sum := "cf734f1d1a0622030746240baf7528a86b554bad04490c0301b97376d0049cdd", func := "loop.example/janitor/laws.FnPlanTx", spec := "fnPlanTx", unfollowed := true, recurses := true, apart := false, narrowed := true }
def FnPlanTxUptoSaid : Prop := fnPlanTxUptoRow.holds Try.pinned (OpenSpec.upto fnPlanTxSpec)

/-- 'laws.FnPlanSec', WHERE WHAT IT READS IS OF BULK AT MOST 1048576: true; the input reads as it did. -/
def fnPlanSecUptoRow : OpenClaim := { program := "yteccebjnopladaa", sum := "cf734f1d1a0622030746240baf7528a86b554bad04490c0301b97376d0049cdd", func := "loop.example/janitor/laws.FnPlanSec", spec := "fnPlanSec", inPlace := ["internal/bytealg.abigen_runtime_cmpstring"], unfollowed := true, recurses := true, apart := false, narrowed := true }
def FnPlanSecUptoSaid : Prop := fnPlanSecUptoRow.holds Try.pinned (OpenSpec.upto fnPlanSecSpec)

end Rows
end Go.Proofs.Yteccebjnopladaa
