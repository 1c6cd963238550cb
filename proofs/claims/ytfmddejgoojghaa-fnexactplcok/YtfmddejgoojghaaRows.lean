/-
  No cell of these rows narrows 'for every input' (looked for: loops, veiled, ifaces, maps, wideKeys, modest, calm, conditions, laid).
  DERIVED. THE GIVEN ROWS OF THIS SEAT. 12 by the template 'for every input the law returns true; each argument reads behind the call as it read before'; 0 by the template 'total and deterministic' (their statements: YtfmddejgoojghaaTotals.lean).
  GIVEN WITH THE SEED: the statements are not yours to turn. If you find one false, say at which input.
  Laid BY PROGRAM, IN A SANDBOX (cutbox-rows.mjs): the forced cells as the released guide's own fill.sh prints them over the translation c648f6eb8faa6a35… (all of the seat's roots in one cut). By AI agents, Wed Nov 11 2026. No macro, syntax, notation, axiom, sorry.
-/
import Derived.Test.YtfmddejgoojghaaChecked
import GoSem.Claim
import GoSem.ClaimJoined
import GoSem.ClaimMapViews
import Derived.JoinedTies
import Derived.KernelRfl
namespace Go.Proofs.Ytfmddejgoojghaa
/- THE CELL 'sum', in the pinned program and in every row, IS THE sha256 OF THE DUMP (.gsa) THAT YtfmddejgoojghaaProg.lean LOADS. Nothing in Lean hashes anything: it is a label: what it is worth is what the hold of that sum in a sandbox is worth. -/
noncomputable def Try.pinned : Pinned := { name := "ytfmddejgoojghaa", sum := "c648f6eb8faa6a3542cc9c66e0cd1e6949e2bc6a3cb9240b3b2bae9c3378d532", checked := Try.checked }
namespace Rows
def none {H : Type} : Left H := { results := [], args := [] }

/-- 'laws.FnExactMsgOk': WHATEVER THE INPUT: true; the input reads as it did. -/
def fnExactMsgOkSpec : ChangeSpec := { name := "fnExactMsgOk", fn := fun _ => fun
  | [d] => { results := [.lit (.bool true)], args := [d] }
  | _ => none }
def fnExactMsgOkRow : OpenClaim := { program := "ytfmddejgoojghaa", sum := "c648f6eb8faa6a3542cc9c66e0cd1e6949e2bc6a3cb9240b3b2bae9c3378d532", func := "loop.example/janitor/laws.FnExactMsgOk", spec := "fnExactMsgOk", apart := false }
def FnExactMsgOkSaid : Prop := fnExactMsgOkRow.holds Try.pinned (OpenSpec.ofChange fnExactMsgOkSpec)

/-- ITS FALSE NEIGHBOUR: 'it returns false'. Refute it at one input. -/
def fnExactMsgOkWrong : ChangeSpec := { name := "fnExactMsgOk", fn := fun _ => fun
  | [d] => { results := [.lit (.bool false)], args := [d] }
  | _ => none }
def FnExactMsgOkWrongFalsely : Prop := fnExactMsgOkRow.holds Try.pinned (OpenSpec.ofChange fnExactMsgOkWrong)

/-- 'laws.FnMsgOk': WHATEVER THE INPUT: true; the input reads as it did. -/
def fnMsgOkSpec : ChangeSpec := { name := "fnMsgOk", fn := fun _ => fun
  | [d] => { results := [.lit (.bool true)], args := [d] }
  | _ => none }
def fnMsgOkRow : OpenClaim := { program := "ytfmddejgoojghaa", sum := "c648f6eb8faa6a3542cc9c66e0cd1e6949e2bc6a3cb9240b3b2bae9c3378d532", func := "loop.example/janitor/laws.FnMsgOk", spec := "fnMsgOk", apart := false }
def FnMsgOkSaid : Prop := fnMsgOkRow.holds Try.pinned (OpenSpec.ofChange fnMsgOkSpec)

/-- ITS FALSE NEIGHBOUR: 'it returns false'. Refute it at one input. -/
def fnMsgOkWrong : ChangeSpec := { name := "fnMsgOk", fn := fun _ => fun
  | [d] => { results := [.lit (.bool false)], args := [d] }
  | _ => none }
def FnMsgOkWrongFalsely : Prop := fnMsgOkRow.holds Try.pinned (OpenSpec.ofChange fnMsgOkWrong)

/-- 'laws.FnExactPlcOk': WHATEVER THE INPUT: true; the input reads as it did. -/
def fnExactPlcOkSpec : ChangeSpec := { name := "fnExactPlcOk", fn := fun _ => fun
  | [d1, d2] => { results := [.lit (.bool true)], args := [d1, d2] }
  | _ => none }
def fnExactPlcOkRow : OpenClaim := { program := "ytfmddejgoojghaa", sum := "c648f6eb8faa6a3542cc9c66e0cd1e6949e2bc6a3cb9240b3b2bae9c3378d532", func := "loop.example/janitor/laws.FnExactPlcOk", spec := "fnExactPlcOk", unfollowed := true, recurses := true, apart := false }
def FnExactPlcOkSaid : Prop := fnExactPlcOkRow.holds Try.pinned (OpenSpec.ofChange fnExactPlcOkSpec)

/-- ITS FALSE NEIGHBOUR: 'it returns false'. Refute it at one input. -/
def fnExactPlcOkWrong : ChangeSpec := { name := "fnExactPlcOk", fn := fun _ => fun
  | [d1, d2] => { results := [.lit (.bool false)], args := [d1, d2] }
  | _ => none }
def FnExactPlcOkWrongFalsely : Prop := fnExactPlcOkRow.holds Try.pinned (OpenSpec.ofChange fnExactPlcOkWrong)

/-- 'laws.FnGloWay': WHATEVER THE INPUT: true; the input reads as it did. -/
def fnGloWaySpec : ChangeSpec := { name := "fnGloWay", fn := fun _ => fun
  | [d] => { results := [.lit (.bool true)], args := [d] }
  | _ => none }
def fnGloWayRow : OpenClaim := { program := "ytfmddejgoojghaa", sum := "c648f6eb8faa6a3542cc9c66e0cd1e6949e2bc6a3cb9240b3b2bae9c3378d532", func := "loop.example/janitor/laws.FnGloWay", spec := "fnGloWay", inPlace := ["internal/bytealg.abigen_runtime_cmpstring", "slices.overlaps[loop.example/janitor/impl.StoItem]"], unfollowed := true, recurses := true, apart := false }
def FnGloWaySaid : Prop := fnGloWayRow.holds Try.pinned (OpenSpec.ofChange fnGloWaySpec)

/-- ITS FALSE NEIGHBOUR: 'it returns false'. Refute it at one input. -/
def fnGloWayWrong : ChangeSpec := { name := "fnGloWay", fn := fun _ => fun
  | [d] => { results := [.lit (.bool false)], args := [d] }
  | _ => none }
def FnGloWayWrongFalsely : Prop := fnGloWayRow.holds Try.pinned (OpenSpec.ofChange fnGloWayWrong)

/-- 'laws.FnGloTheft': WHATEVER THE INPUT: true; the input reads as it did. -/
def fnGloTheftSpec : ChangeSpec := { name := "fnGloTheft", fn := fun _ => fun
  | [d] => { results := [.lit (.bool true)], args := [d] }
  | _ => none }
def fnGloTheftRow : OpenClaim := { program := "ytfmddejgoojghaa", sum := "c648f6eb8faa6a3542cc9c66e0cd1e6949e2bc6a3cb9240b3b2bae9c3378d532", func := "loop.example/janitor/laws.FnGloTheft", spec := "fnGloTheft", inPlace := ["internal/bytealg.abigen_runtime_cmpstring", "slices.overlaps[loop.example/janitor/impl.StoItem]"], unfollowed := true, recurses := true, apart := false }
def FnGloTheftSaid : Prop := fnGloTheftRow.holds Try.pinned (OpenSpec.ofChange fnGloTheftSpec)

/-- ITS FALSE NEIGHBOUR: 'it returns false'. Refute it at one input. -/
def fnGloTheftWrong : ChangeSpec := { name := "fnGloTheft", fn := fun _ => fun
  | [d] => { results := [.lit (.bool false)], args := [d] }
  | _ => none }
def FnGloTheftWrongFalsely : Prop := fnGloTheftRow.holds Try.pinned (OpenSpec.ofChange fnGloTheftWrong)

/-- 'laws.FnGloNoted': WHATEVER THE INPUT: true; the input reads as it did. -/
def fnGloNotedSpec : ChangeSpec := { name := "fnGloNoted", fn := fun _ => fun
  | [d] => { results := [.lit (.bool true)], args := [d] }
  | _ => none }
def fnGloNotedRow : OpenClaim := { program := "ytfmddejgoojghaa", sum := "c648f6eb8faa6a3542cc9c66e0cd1e6949e2bc6a3cb9240b3b2bae9c3378d532", func := "loop.example/janitor/laws.FnGloNoted", spec := "fnGloNoted", inPlace := ["internal/bytealg.abigen_runtime_cmpstring", "slices.overlaps[loop.example/janitor/impl.StoItem]"], unfollowed := true, recurses := true, apart := false }
def FnGloNotedSaid : Prop := fnGloNotedRow.holds Try.pinned (OpenSpec.ofChange fnGloNotedSpec)

/-- ITS FALSE NEIGHBOUR: 'it returns false'. Refute it at one input. -/
def fnGloNotedWrong : ChangeSpec := { name := "fnGloNoted", fn := fun _ => fun
  | [d] => { results := [.lit (.bool false)], args := [d] }
  | _ => none }
def FnGloNotedWrongFalsely : Prop := fnGloNotedRow.holds Try.pinned (OpenSpec.ofChange fnGloNotedWrong)

/-- 'laws.FnGloCode': WHATEVER THE INPUT: true; the input reads as it did. -/
def fnGloCodeSpec : ChangeSpec := { name := "fnGloCode", fn := fun _ => fun
  | [d] => { results := [.lit (.bool true)], args := [d] }
  | _ => none }
def fnGloCodeRow : OpenClaim := { program := "ytfmddejgoojghaa", sum := "c648f6eb8faa6a3542cc9c66e0cd1e6949e2bc6a3cb9240b3b2bae9c3378d532", func := "loop.example/janitor/laws.FnGloCode", spec := "fnGloCode", inPlace := ["internal/bytealg.abigen_runtime_cmpstring", "slices.overlaps[loop.example/janitor/impl.StoItem]"], unfollowed := true, recurses := true, apart := false }
def FnGloCodeSaid : Prop := fnGloCodeRow.holds Try.pinned (OpenSpec.ofChange fnGloCodeSpec)

/-- ITS FALSE NEIGHBOUR: 'it returns false'. Refute it at one input. -/
def fnGloCodeWrong : ChangeSpec := { name := "fnGloCode", fn := fun _ => fun
  | [d] => { results := [.lit (.bool false)], args := [d] }
  | _ => none }
def FnGloCodeWrongFalsely : Prop := fnGloCodeRow.holds Try.pinned (OpenSpec.ofChange fnGloCodeWrong)

/-- 'laws.FnGloFam': WHATEVER THE INPUT: true; the input reads as it did. -/
def fnGloFamSpec : ChangeSpec := { name := "fnGloFam", fn := fun _ => fun
  | [d] => { results := [.lit (.bool true)], args := [d] }
  | _ => none }
def fnGloFamRow : OpenClaim := { program := "ytfmddejgoojghaa", sum := "c648f6eb8faa6a3542cc9c66e0cd1e6949e2bc6a3cb9240b3b2bae9c3378d532", func := "loop.example/janitor/laws.FnGloFam", spec := "fnGloFam", inPlace := ["internal/bytealg.abigen_runtime_cmpstring", "slices.overlaps[loop.example/janitor/impl.StoItem]"], unfollowed := true, recurses := true, apart := false }
def FnGloFamSaid : Prop := fnGloFamRow.holds Try.pinned (OpenSpec.ofChange fnGloFamSpec)

/-- ITS FALSE NEIGHBOUR: 'it returns false'. Refute it at one input. -/
def fnGloFamWrong : ChangeSpec := { name := "fnGloFam", fn := fun _ => fun
  | [d] => { results := [.lit (.bool false)], args := [d] }
  | _ => none }
def FnGloFamWrongFalsely : Prop := fnGloFamRow.holds Try.pinned (OpenSpec.ofChange fnGloFamWrong)

/-- 'laws.FnGloOut': WHATEVER THE INPUT: true; the input reads as it did. -/
def fnGloOutSpec : ChangeSpec := { name := "fnGloOut", fn := fun _ => fun
  | [d] => { results := [.lit (.bool true)], args := [d] }
  | _ => none }
def fnGloOutRow : OpenClaim := { program := "ytfmddejgoojghaa", sum := "c648f6eb8faa6a3542cc9c66e0cd1e6949e2bc6a3cb9240b3b2bae9c3378d532", func := "loop.example/janitor/laws.FnGloOut", spec := "fnGloOut", inPlace := ["internal/bytealg.abigen_runtime_cmpstring", "slices.overlaps[loop.example/janitor/impl.StoItem]"], unfollowed := true, recurses := true, apart := false }
def FnGloOutSaid : Prop := fnGloOutRow.holds Try.pinned (OpenSpec.ofChange fnGloOutSpec)

/-- ITS FALSE NEIGHBOUR: 'it returns false'. Refute it at one input. -/
def fnGloOutWrong : ChangeSpec := { name := "fnGloOut", fn := fun _ => fun
  | [d] => { results := [.lit (.bool false)], args := [d] }
  | _ => none }
def FnGloOutWrongFalsely : Prop := fnGloOutRow.holds Try.pinned (OpenSpec.ofChange fnGloOutWrong)

/-- 'laws.FnGloIn': WHATEVER THE INPUT: true; the input reads as it did. -/
def fnGloInSpec : ChangeSpec := { name := "fnGloIn", fn := fun _ => fun
  | [d] => { results := [.lit (.bool true)], args := [d] }
  | _ => none }
def fnGloInRow : OpenClaim := { program := "ytfmddejgoojghaa", sum := "c648f6eb8faa6a3542cc9c66e0cd1e6949e2bc6a3cb9240b3b2bae9c3378d532", func := "loop.example/janitor/laws.FnGloIn", spec := "fnGloIn", inPlace := ["internal/bytealg.abigen_runtime_cmpstring", "slices.overlaps[loop.example/janitor/impl.StoItem]"], unfollowed := true, recurses := true, apart := false }
def FnGloInSaid : Prop := fnGloInRow.holds Try.pinned (OpenSpec.ofChange fnGloInSpec)

/-- ITS FALSE NEIGHBOUR: 'it returns false'. Refute it at one input. -/
def fnGloInWrong : ChangeSpec := { name := "fnGloIn", fn := fun _ => fun
  | [d] => { results := [.lit (.bool false)], args := [d] }
  | _ => none }
def FnGloInWrongFalsely : Prop := fnGloInRow.holds Try.pinned (OpenSpec.ofChange fnGloInWrong)

/-- 'laws.FnGloDead': WHATEVER THE INPUT: true; the input reads as it did. -/
def fnGloDeadSpec : ChangeSpec := { name := "fnGloDead", fn := fun _ => fun
  | [d] => { results := [.lit (.bool true)], args := [d] }
  | _ => none }
def fnGloDeadRow : OpenClaim := { program := "ytfmddejgoojghaa", sum := "c648f6eb8faa6a3542cc9c66e0cd1e6949e2bc6a3cb9240b3b2bae9c3378d532", func := "loop.example/janitor/laws.FnGloDead", spec := "fnGloDead", inPlace := ["internal/bytealg.abigen_runtime_cmpstring", "slices.overlaps[loop.example/janitor/impl.StoItem]"], unfollowed := true, recurses := true, apart := false }
def FnGloDeadSaid : Prop := fnGloDeadRow.holds Try.pinned (OpenSpec.ofChange fnGloDeadSpec)

/-- ITS FALSE NEIGHBOUR: 'it returns false'. Refute it at one input. -/
def fnGloDeadWrong : ChangeSpec := { name := "fnGloDead", fn := fun _ => fun
  | [d] => { results := [.lit (.bool false)], args := [d] }
  | _ => none }
def FnGloDeadWrongFalsely : Prop := fnGloDeadRow.holds Try.pinned (OpenSpec.ofChange fnGloDeadWrong)

/-- 'laws.FnGloNone': WHATEVER THE INPUT: true; the input reads as it did. -/
def fnGloNoneSpec : ChangeSpec := { name := "fnGloNone", fn := fun _ => fun
  | [d] => { results := [.lit (.bool true)], args := [d] }
  | _ => none }
def fnGloNoneRow : OpenClaim := { program := "ytfmddejgoojghaa", sum := "c648f6eb8faa6a3542cc9c66e0cd1e6949e2bc6a3cb9240b3b2bae9c3378d532", func := "loop.example/janitor/laws.FnGloNone", spec := "fnGloNone", inPlace := ["internal/bytealg.abigen_runtime_cmpstring", "slices.overlaps[loop.example/janitor/impl.StoItem]"], unfollowed := true, recurses := true, apart := false }
def FnGloNoneSaid : Prop := fnGloNoneRow.holds Try.pinned (OpenSpec.ofChange fnGloNoneSpec)

/-- ITS FALSE NEIGHBOUR: 'it returns false'. Refute it at one input. -/
def fnGloNoneWrong : ChangeSpec := { name := "fnGloNone", fn := fun _ => fun
  | [d] => { results := [.lit (.bool false)], args := [d] }
  | _ => none }
def FnGloNoneWrongFalsely : Prop := fnGloNoneRow.holds Try.pinned (OpenSpec.ofChange fnGloNoneWrong)

/- THE SECOND FORM. 'bulk': how many values and letters a reading holds, each counted each time it is reached (what is shared counts as often as it is met; a slice's spare places count too). A statement '..UptoSaid' is the law's where the arguments, and the package variables that the reading takes, are together of bulk at most 1048576: NARROWER than '..Said'. Prove '..Said' where nothing that the law and all that it calls make is longer than what came in: it says more and counts as full. Else prove '..UptoSaid'. A law counts once. -/
mutual
def uptoBulk {H : Type} : DataW H → Nat
  | .lit (.string bytes) => bytes.length + 1
  | .lit _ => 1
  | .nil => 1
  | .ptr d => uptoBulk d + 1
  | .slice elems spare => uptoBulkAll elems + uptoBulkAll spare + 1
  | .agg parts => uptoBulkAll parts + 1
  | .iface _ d => uptoBulk d + 1
  | .map entries => uptoBulkEntries entries + 1
  | .held _ => 1
def uptoBulkAll {H : Type} : List (DataW H) → Nat
  | [] => 0
  | d :: r => uptoBulk d + uptoBulkAll r
def uptoBulkEntries {H : Type} : List (Lit × DataW H) → Nat
  | [] => 0
  | x :: r => uptoBulkEntry x + uptoBulkEntries r
def uptoBulkEntry {H : Type} : Lit × DataW H → Nat
  | (.string bytes, d) => bytes.length + uptoBulk d + 1
  | (_, d) => uptoBulk d + 1
 end
def uptoSmall : (H : Type) → List (DataW H) → Bool := fun _ ds => decide (uptoBulkAll ds ≤ 1048576)
def OpenSpec.upto (s : _root_.Go.ChangeSpec) : _root_.Go.OpenSpec := { _root_.Go.OpenSpec.ofChange s with cond := some uptoSmall }

/-- 'laws.FnExactMsgOk', WHERE WHAT IT READS IS OF BULK AT MOST 1048576: true; the input reads as it did. -/
def fnExactMsgOkUptoRow : OpenClaim := { program := "ytfmddejgoojghaa", sum := "c648f6eb8faa6a3542cc9c66e0cd1e6949e2bc6a3cb9240b3b2bae9c3378d532", func := "loop.example/janitor/laws.FnExactMsgOk", spec := "fnExactMsgOk", apart := false, narrowed := true }
def FnExactMsgOkUptoSaid : Prop := fnExactMsgOkUptoRow.holds Try.pinned (OpenSpec.upto fnExactMsgOkSpec)

/-- 'laws.FnMsgOk', WHERE WHAT IT READS IS OF BULK AT MOST 1048576: true; the input reads as it did. -/
def fnMsgOkUptoRow : OpenClaim := { program := "ytfmddejgoojghaa", sum := "c648f6eb8faa6a3542cc9c66e0cd1e6949e2bc6a3cb9240b3b2bae9c3378d532", func := "loop.example/janitor/laws.FnMsgOk", spec := "fnMsgOk", apart := false, narrowed := true }
def FnMsgOkUptoSaid : Prop := fnMsgOkUptoRow.holds Try.pinned (OpenSpec.upto fnMsgOkSpec)

/-- 'laws.FnExactPlcOk', WHERE WHAT IT READS IS OF BULK AT MOST 1048576: true; the input reads as it did. -/
def fnExactPlcOkUptoRow : OpenClaim := { program := "ytfmddejgoojghaa", sum := "c648f6eb8faa6a3542cc9c66e0cd1e6949e2bc6a3cb9240b3b2bae9c3378d532", func := "loop.example/janitor/laws.FnExactPlcOk", spec := "fnExactPlcOk", unfollowed := true, recurses := true, apart := false, narrowed := true }
def FnExactPlcOkUptoSaid : Prop := fnExactPlcOkUptoRow.holds Try.pinned (OpenSpec.upto fnExactPlcOkSpec)

/-- 'laws.FnGloWay', WHERE WHAT IT READS IS OF BULK AT MOST 1048576: true; the input reads as it did. -/
def fnGloWayUptoRow : OpenClaim := { program := "ytfmddejgoojghaa", sum := "c648f6eb8faa6a3542cc9c66e0cd1e6949e2bc6a3cb9240b3b2bae9c3378d532", func := "loop.example/janitor/laws.FnGloWay", spec := "fnGloWay", inPlace := ["internal/bytealg.abigen_runtime_cmpstring", "slices.overlaps[loop.example/janitor/impl.StoItem]"], unfollowed := true, recurses := true, apart := false, narrowed := true }
def FnGloWayUptoSaid : Prop := fnGloWayUptoRow.holds Try.pinned (OpenSpec.upto fnGloWaySpec)

/-- 'laws.FnGloTheft', WHERE WHAT IT READS IS OF BULK AT MOST 1048576: true; the input reads as it did. -/
def fnGloTheftUptoRow : OpenClaim := { program := "ytfmddejgoojghaa", sum := "c648f6eb8faa6a3542cc9c66e0cd1e6949e2bc6a3cb9240b3b2bae9c3378d532", func := "loop.example/janitor/laws.FnGloTheft", spec := "fnGloTheft", inPlace := ["internal/bytealg.abigen_runtime_cmpstring", "slices.overlaps[loop.example/janitor/impl.StoItem]"], unfollowed := true, recurses := true, apart := false, narrowed := true }
def FnGloTheftUptoSaid : Prop := fnGloTheftUptoRow.holds Try.pinned (OpenSpec.upto fnGloTheftSpec)

/-- 'laws.FnGloNoted', WHERE WHAT IT READS IS OF BULK AT MOST 1048576: true; the input reads as it did. -/
def fnGloNotedUptoRow : OpenClaim := { program := "ytfmddejgoojghaa", sum := "c648f6eb8faa6a3542cc9c66e0cd1e6949e2bc6a3cb9240b3b2bae9c3378d532", func := "loop.example/janitor/laws.FnGloNoted", spec := "fnGloNoted", inPlace := ["internal/bytealg.abigen_runtime_cmpstring", "slices.overlaps[loop.example/janitor/impl.StoItem]"], unfollowed := true, recurses := true, apart := false, narrowed := true }
def FnGloNotedUptoSaid : Prop := fnGloNotedUptoRow.holds Try.pinned (OpenSpec.upto fnGloNotedSpec)

/-- 'laws.FnGloCode', WHERE WHAT IT READS IS OF BULK AT MOST 1048576: true; the input reads as it did. -/
def fnGloCodeUptoRow : OpenClaim := { program := "ytfmddejgoojghaa", sum := "c648f6eb8faa6a3542cc9c66e0cd1e6949e2bc6a3cb9240b3b2bae9c3378d532", func := "loop.example/janitor/laws.FnGloCode", spec := "fnGloCode", inPlace := ["internal/bytealg.abigen_runtime_cmpstring", "slices.overlaps[loop.example/janitor/impl.StoItem]"], unfollowed := true, recurses := true, apart := false, narrowed := true }
def FnGloCodeUptoSaid : Prop := fnGloCodeUptoRow.holds Try.pinned (OpenSpec.upto fnGloCodeSpec)

/-- 'laws.FnGloFam', WHERE WHAT IT READS IS OF BULK AT MOST 1048576: true; the input reads as it did. -/
def fnGloFamUptoRow : OpenClaim := { program := "ytfmddejgoojghaa", sum := "c648f6eb8faa6a3542cc9c66e0cd1e6949e2bc6a3cb9240b3b2bae9c3378d532", func := "loop.example/janitor/laws.FnGloFam", spec := "fnGloFam", inPlace := ["internal/bytealg.abigen_runtime_cmpstring", "slices.overlaps[loop.example/janitor/impl.StoItem]"], unfollowed := true, recurses := true, apart := false, narrowed := true }
def FnGloFamUptoSaid : Prop := fnGloFamUptoRow.holds Try.pinned (OpenSpec.upto fnGloFamSpec)

/-- 'laws.FnGloOut', WHERE WHAT IT READS IS OF BULK AT MOST 1048576: true; the input reads as it did. -/
def fnGloOutUptoRow : OpenClaim := { program := "ytfmddejgoojghaa", sum := "c648f6eb8faa6a3542cc9c66e0cd1e6949e2bc6a3cb9240b3b2bae9c3378d532", func := "loop.example/janitor/laws.FnGloOut", spec := "fnGloOut", inPlace := ["internal/bytealg.abigen_runtime_cmpstring", "slices.overlaps[loop.example/janitor/impl.StoItem]"], unfollowed := true, recurses := true, apart := false, narrowed := true }
def FnGloOutUptoSaid : Prop := fnGloOutUptoRow.holds Try.pinned (OpenSpec.upto fnGloOutSpec)

/-- 'laws.FnGloIn', WHERE WHAT IT READS IS OF BULK AT MOST 1048576: true; the input reads as it did. -/
def fnGloInUptoRow : OpenClaim := { program := "ytfmddejgoojghaa", sum := "c648f6eb8faa6a3542cc9c66e0cd1e6949e2bc6a3cb9240b3b2bae9c3378d532", func := "loop.example/janitor/laws.FnGloIn", spec := "fnGloIn", inPlace := ["internal/bytealg.abigen_runtime_cmpstring", "slices.overlaps[loop.example/janitor/impl.StoItem]"], unfollowed := true, recurses := true, apart := false, narrowed := true }
def FnGloInUptoSaid : Prop := fnGloInUptoRow.holds Try.pinned (OpenSpec.upto fnGloInSpec)

/-- 'laws.FnGloDead', WHERE WHAT IT READS IS OF BULK AT MOST 1048576: true; the input reads as it did. -/
def fnGloDeadUptoRow : OpenClaim := { program := "ytfmddejgoojghaa", sum := "c648f6eb8faa6a3542cc9c66e0cd1e6949e2bc6a3cb9240b3b2bae9c3378d532", func := "loop.example/janitor/laws.FnGloDead", spec := "fnGloDead", inPlace := ["internal/bytealg.abigen_runtime_cmpstring", "slices.overlaps[loop.example/janitor/impl.StoItem]"], unfollowed := true, recurses := true, apart := false, narrowed := true }
def FnGloDeadUptoSaid : Prop := fnGloDeadUptoRow.holds Try.pinned (OpenSpec.upto fnGloDeadSpec)

/-- 'laws.FnGloNone', WHERE WHAT IT READS IS OF BULK AT MOST 1048576: true; the input reads as it did. -/
def fnGloNoneUptoRow : OpenClaim := { program := "ytfmddejgoojghaa", sum := "c648f6eb8faa6a3542cc9c66e0cd1e6949e2bc6a3cb9240b3b2bae9c3378d532", func := "loop.example/janitor/laws.FnGloNone", spec := "fnGloNone", inPlace := ["internal/bytealg.abigen_runtime_cmpstring", "slices.overlaps[loop.example/janitor/impl.StoItem]"], unfollowed := true, recurses := true, apart := false, narrowed := true }
def FnGloNoneUptoSaid : Prop := fnGloNoneUptoRow.holds Try.pinned (OpenSpec.upto fnGloNoneSpec)

end Rows
end Go.Proofs.Ytfmddejgoojghaa
