/-
  No cell of these rows narrows 'for every input' (looked for: loops, veiled, ifaces, maps, wideKeys, modest, calm, conditions, laid).
  DERIVED. THE GIVEN ROWS OF THIS SEAT. 12 by the template 'for every input the law returns true; each argument reads behind the call as it read before'; 0 by the template 'total and deterministic' (their statements: YtlmcpkijcadalaaTotals.lean).
  GIVEN WITH THE SEED: the statements are not yours to turn. If you find one false, say at which input.
  Laid BY PROGRAM, IN A SANDBOX (cutbox-rows.mjs): the forced cells as the released guide's own fill.sh prints them over the translation e29d8eddf39b1411… (all of the seat's roots in one cut). By AI agents, Wed Nov 11 2026. No macro, syntax, notation, axiom, sorry.
-/
import Derived.Test.YtlmcpkijcadalaaChecked
import GoSem.Claim
import GoSem.ClaimJoined
import GoSem.ClaimMapViews
import Derived.JoinedTies
import Derived.KernelRfl
namespace Go.Proofs.Ytlmcpkijcadalaa
/- THE CELL 'sum', in the pinned program and in every row, IS THE sha256 OF THE DUMP (.gsa) THAT YtlmcpkijcadalaaProg.lean LOADS. Nothing in Lean hashes anything: it is a label: what it is worth is what the hold of that sum in a sandbox is worth. -/
noncomputable def Try.pinned : Pinned := { name := "ytlmcpkijcadalaa", sum := "e29d8eddf39b1411c38ce5d627593e49caa23dd534389ddd6ccf82e9e288beb0", checked := Try.checked }
namespace Rows
def none {H : Type} : Left H := { results := [], args := [] }

/-- 'laws.FnExactMsgOk': WHATEVER THE INPUT: true; the input reads as it did. -/
def fnExactMsgOkSpec : ChangeSpec := { name := "fnExactMsgOk", fn := fun _ => fun
  | [d] => { results := [.lit (.bool true)], args := [d] }
  | _ => none }
def fnExactMsgOkRow : OpenClaim := { program := "ytlmcpkijcadalaa", sum := "e29d8eddf39b1411c38ce5d627593e49caa23dd534389ddd6ccf82e9e288beb0", func := "loop.example/janitor/laws.FnExactMsgOk", spec := "fnExactMsgOk", apart := false }
def FnExactMsgOkSaid : Prop := fnExactMsgOkRow.holds Try.pinned (OpenSpec.ofChange fnExactMsgOkSpec)

/-- ITS FALSE NEIGHBOUR: 'it returns false'. Refute it at one input. -/
def fnExactMsgOkWrong : ChangeSpec := { name := "fnExactMsgOk", fn := fun _ => fun
  | [d] => { results := [.lit (.bool false)], args := [d] }
  | _ => none }
def FnExactMsgOkWrongFalsely : Prop := fnExactMsgOkRow.holds Try.pinned (OpenSpec.ofChange fnExactMsgOkWrong)

/-- 'laws.FnMsgOk': WHATEVER THE INPUT: true; the input reads as it did. -/
def fnMsgOkSpec : ChangeSpec := { name := "fnMsgOk", fn := fun _ => fun
  | [d] => { results := [.lit (.bool true)], args := [d] }
  | _ => none }
def fnMsgOkRow : OpenClaim := { program := "ytlmcpkijcadalaa", sum := "e29d8eddf39b1411c38ce5d627593e49caa23dd534389ddd6ccf82e9e288beb0", func := "loop.example/janitor/laws.FnMsgOk", spec := "fnMsgOk", apart := false }
def FnMsgOkSaid : Prop := fnMsgOkRow.holds Try.pinned (OpenSpec.ofChange fnMsgOkSpec)

/-- ITS FALSE NEIGHBOUR: 'it returns false'. Refute it at one input. -/
def fnMsgOkWrong : ChangeSpec := { name := "fnMsgOk", fn := fun _ => fun
  | [d] => { results := [.lit (.bool false)], args := [d] }
  | _ => none }
def FnMsgOkWrongFalsely : Prop := fnMsgOkRow.holds Try.pinned (OpenSpec.ofChange fnMsgOkWrong)

/-- 'laws.FnNoteOk': WHATEVER THE INPUT: true; the input reads as it did. -/
def fnNoteOkSpec : ChangeSpec := { name := "fnNoteOk", fn := fun _ => fun
  | [d] => { results := [.lit (.bool true)], args := [d] }
  | _ => none }
def fnNoteOkRow : OpenClaim := { program := "ytlmcpkijcadalaa", sum := "e29d8eddf39b1411c38ce5d627593e49caa23dd534389ddd6ccf82e9e288beb0", func := "loop.example/janitor/laws.FnNoteOk", spec := "fnNoteOk", apart := false }
def FnNoteOkSaid : Prop := fnNoteOkRow.holds Try.pinned (OpenSpec.ofChange fnNoteOkSpec)

/-- ITS FALSE NEIGHBOUR: 'it returns false'. Refute it at one input. -/
def fnNoteOkWrong : ChangeSpec := { name := "fnNoteOk", fn := fun _ => fun
  | [d] => { results := [.lit (.bool false)], args := [d] }
  | _ => none }
def FnNoteOkWrongFalsely : Prop := fnNoteOkRow.holds Try.pinned (OpenSpec.ofChange fnNoteOkWrong)

/-- 'laws.FnGloWay': WHATEVER THE INPUT: true; the input reads as it did. -/
def fnGloWaySpec : ChangeSpec := { name := "fnGloWay", fn := fun _ => fun
  | [d] => { results := [.lit (.bool true)], args := [d] }
  | _ => none }
def fnGloWayRow : OpenClaim := { program := "ytlmcpkijcadalaa", sum := "e29d8eddf39b1411c38ce5d627593e49caa23dd534389ddd6ccf82e9e288beb0", func := "loop.example/janitor/laws.FnGloWay", spec := "fnGloWay", inPlace := ["internal/bytealg.abigen_runtime_cmpstring", "slices.overlaps[loop.example/janitor/impl.StoItem]"], unfollowed := true, recurses := true, apart := false }
def FnGloWaySaid : Prop := fnGloWayRow.holds Try.pinned (OpenSpec.ofChange fnGloWaySpec)

/-- ITS FALSE NEIGHBOUR: 'it returns false'. Refute it at one input. -/
def fnGloWayWrong : ChangeSpec := { name := "fnGloWay", fn := fun _ => fun
  | [d] => { results := [.lit (.bool false)], args := [d] }
  | _ => none }
def FnGloWayWrongFalsely : Prop := fnGloWayRow.holds Try.pinned (OpenSpec.ofChange fnGloWayWrong)

/-- 'laws.FnGloTheft': WHATEVER THE INPUT: true; the input reads as it did. -/
def fnGloTheftSpec : ChangeSpec := { name := "fnGloTheft", fn := fun _ => fun
  | [d] => { results := [.lit (.bool true)], args := [d] }
  | _ => none }
def fnGloTheftRow : OpenClaim := { program := "ytlmcpkijcadalaa", sum := "e29d8eddf39b1411c38ce5d627593e49caa23dd534389ddd6ccf82e9e288beb0", func := "loop.example/janitor/laws.FnGloTheft", spec := "fnGloTheft", inPlace := ["internal/bytealg.abigen_runtime_cmpstring", "slices.overlaps[loop.example/janitor/impl.StoItem]"], unfollowed := true, recurses := true, apart := false }
def FnGloTheftSaid : Prop := fnGloTheftRow.holds Try.pinned (OpenSpec.ofChange fnGloTheftSpec)

/-- ITS FALSE NEIGHBOUR: 'it returns false'. Refute it at one input. -/
def fnGloTheftWrong : ChangeSpec := { name := "fnGloTheft", fn := fun _ => fun
  | [d] => { results := [.lit (.bool false)], args := [d] }
  | _ => none }
def FnGloTheftWrongFalsely : Prop := fnGloTheftRow.holds Try.pinned (OpenSpec.ofChange fnGloTheftWrong)

/-- 'laws.FnGloCode': WHATEVER THE INPUT: true; the input reads as it did. -/
def fnGloCodeSpec : ChangeSpec := { name := "fnGloCode", fn := fun _ => fun
  | [d] => { results := [.lit (.bool true)], args := [d] }
  | _ => none }
def fnGloCodeRow : OpenClaim := { program := "ytlmcpkijcadalaa", sum := "e29d8eddf39b1411c38ce5d627593e49caa23dd534389ddd6ccf82e9e288beb0", func := "loop.example/janitor/laws.FnGloCode", spec := "fnGloCode", inPlace := ["internal/bytealg.abigen_runtime_cmpstring", "slices.overlaps[loop.example/janitor/impl.StoItem]"], unfollowed := true, recurses := true, apart := false }
def FnGloCodeSaid : Prop := fnGloCodeRow.holds Try.pinned (OpenSpec.ofChange fnGloCodeSpec)

/-- ITS FALSE NEIGHBOUR: 'it returns false'. Refute it at one input. -/
def fnGloCodeWrong : ChangeSpec := { name := "fnGloCode", fn := fun _ => fun
  | [d] => { results := [.lit (.bool false)], args := [d] }
  | _ => none }
def FnGloCodeWrongFalsely : Prop := fnGloCodeRow.holds Try.pinned (OpenSpec.ofChange fnGloCodeWrong)

/-- 'laws.FnGloFam': WHATEVER THE INPUT: true; the input reads as it did. -/
def fnGloFamSpec : ChangeSpec := { name := "fnGloFam", fn := fun _ => fun
  | [d] => { results := [.lit (.bool true)], args := [d] }
  | _ => none }
def fnGloFamRow : OpenClaim := { program := "ytlmcpkijcadalaa", sum := "e29d8eddf39b1411c38ce5d627593e49caa23dd534389ddd6ccf82e9e288beb0", func := "loop.example/janitor/laws.FnGloFam", spec := "fnGloFam", inPlace := ["internal/bytealg.abigen_runtime_cmpstring", "slices.overlaps[loop.example/janitor/impl.StoItem]"], unfollowed := true, recurses := true, apart := false }
def FnGloFamSaid : Prop := fnGloFamRow.holds Try.pinned (OpenSpec.ofChange fnGloFamSpec)

/-- ITS FALSE NEIGHBOUR: 'it returns false'. Refute it at one input. -/
def fnGloFamWrong : ChangeSpec := { name := "fnGloFam", fn := fun _ => fun
  | [d] => { results := [.lit (.bool false)], args := [d] }
  | _ => none }
def FnGloFamWrongFalsely : Prop := fnGloFamRow.holds Try.pinned (OpenSpec.ofChange fnGloFamWrong)

/-- 'laws.FnGloOut': WHATEVER THE INPUT: true; the input reads as it did. -/
def fnGloOutSpec : ChangeSpec := { name := "fnGloOut", fn := fun _ => fun
  | [d] => { results := [.lit (.bool true)], args := [d] }
  | _ => none }
def fnGloOutRow : OpenClaim := { program := "ytlmcpkijcadalaa", sum := "e29d8eddf39b1411c38ce5d627593e49caa23dd534389ddd6ccf82e9e288beb0", func := "loop.example/janitor/laws.FnGloOut", spec := "fnGloOut", inPlace := ["internal/bytealg.abigen_runtime_cmpstring", "slices.overlaps[loop.example/janitor/impl.StoItem]"], unfollowed := true, recurses := true, apart := false }
def FnGloOutSaid : Prop := fnGloOutRow.holds Try.pinned (OpenSpec.ofChange fnGloOutSpec)

/-- ITS FALSE NEIGHBOUR: 'it returns false'. Refute it at one input. -/
def fnGloOutWrong : ChangeSpec := { name := "fnGloOut", fn := fun _ => fun
  | [d] => { results := [.lit (.bool false)], args := [d] }
  | _ => none }
def FnGloOutWrongFalsely : Prop := fnGloOutRow.holds Try.pinned (OpenSpec.ofChange fnGloOutWrong)

/-- 'laws.FnGloIn': WHATEVER THE INPUT: true; the input reads as it did. -/
def fnGloInSpec : ChangeSpec := { name := "fnGloIn", fn := fun _ => fun
  | [d] => { results := [.lit (.bool true)], args := [d] }
  | _ => none }
def fnGloInRow : OpenClaim := { program := "ytlmcpkijcadalaa", sum := "e29d8eddf39b1411c38ce5d627593e49caa23dd534389ddd6ccf82e9e288beb0", func := "loop.example/janitor/laws.FnGloIn", spec := "fnGloIn", inPlace := ["internal/bytealg.abigen_runtime_cmpstring", "slices.overlaps[loop.example/janitor/impl.StoItem]"], unfollowed := true, recurses := true, apart := false }
def FnGloInSaid : Prop := fnGloInRow.holds Try.pinned (OpenSpec.ofChange fnGloInSpec)

/-- ITS FALSE NEIGHBOUR: 'it returns false'. Refute it at one input. -/
def fnGloInWrong : ChangeSpec := { name := "fnGloIn", fn := fun _ => fun
  | [d] => { results := [.lit (.bool false)], args := [d] }
  | _ => none }
def FnGloInWrongFalsely : Prop := fnGloInRow.holds Try.pinned (OpenSpec.ofChange fnGloInWrong)

/-- 'laws.FnGloDead': WHATEVER THE INPUT: true; the input reads as it did. -/
def fnGloDeadSpec : ChangeSpec := { name := "fnGloDead", fn := fun _ => fun
  | [d] => { results := [.lit (.bool true)], args := [d] }
  | _ => none }
def fnGloDeadRow : OpenClaim := { program := "ytlmcpkijcadalaa", sum := "e29d8eddf39b1411c38ce5d627593e49caa23dd534389ddd6ccf82e9e288beb0", func := "loop.example/janitor/laws.FnGloDead", spec := "fnGloDead", inPlace := ["internal/bytealg.abigen_runtime_cmpstring", "slices.overlaps[loop.example/janitor/impl.StoItem]"], unfollowed := true, recurses := true, apart := false }
def FnGloDeadSaid : Prop := fnGloDeadRow.holds Try.pinned (OpenSpec.ofChange fnGloDeadSpec)

/-- ITS FALSE NEIGHBOUR: 'it returns false'. Refute it at one input. -/
def fnGloDeadWrong : ChangeSpec := { name := "fnGloDead", fn := fun _ => fun
  | [d] => { results := [.lit (.bool false)], args := [d] }
  | _ => none }
def FnGloDeadWrongFalsely : Prop := fnGloDeadRow.holds Try.pinned (OpenSpec.ofChange fnGloDeadWrong)

/-- 'laws.FnExactGloOk': WHATEVER THE INPUT: true; the input reads as it did. -/
def fnExactGloOkSpec : ChangeSpec := { name := "fnExactGloOk", fn := fun _ => fun
  | [d] => { results := [.lit (.bool true)], args := [d] }
  | _ => none }
def fnExactGloOkRow : OpenClaim := { program := "ytlmcpkijcadalaa", sum := "e29d8eddf39b1411c38ce5d627593e49caa23dd534389ddd6ccf82e9e288beb0", func := "loop.example/janitor/laws.FnExactGloOk", spec := "fnExactGloOk", unfollowed := true, recurses := true, apart := false }
def FnExactGloOkSaid : Prop := fnExactGloOkRow.holds Try.pinned (OpenSpec.ofChange fnExactGloOkSpec)

/-- ITS FALSE NEIGHBOUR: 'it returns false'. Refute it at one input. -/
def fnExactGloOkWrong : ChangeSpec := { name := "fnExactGloOk", fn := fun _ => fun
  | [d] => { results := [.lit (.bool false)], args := [d] }
  | _ => none }
def FnExactGloOkWrongFalsely : Prop := fnExactGloOkRow.holds Try.pinned (OpenSpec.ofChange fnExactGloOkWrong)

/-- 'laws.FnExactDiskAdd': WHATEVER THE INPUT: true; the input reads as it did. -/
def fnExactDiskAddSpec : ChangeSpec := { name := "fnExactDiskAdd", fn := fun _ => fun
  | [d1, d2, d3] => { results := [.lit (.bool true)], args := [d1, d2, d3] }
  | _ => none }
def fnExactDiskAddRow : OpenClaim := { program := "ytlmcpkijcadalaa", sum := "e29d8eddf39b1411c38ce5d627593e49caa23dd534389ddd6ccf82e9e288beb0", func := "loop.example/janitor/laws.FnExactDiskAdd", spec := "fnExactDiskAdd", unfollowed := true, recurses := true, apart := false }
def FnExactDiskAddSaid : Prop := fnExactDiskAddRow.holds Try.pinned (OpenSpec.ofChange fnExactDiskAddSpec)

/-- ITS FALSE NEIGHBOUR: 'it returns false'. Refute it at one input. -/
def fnExactDiskAddWrong : ChangeSpec := { name := "fnExactDiskAdd", fn := fun _ => fun
  | [d1, d2, d3] => { results := [.lit (.bool false)], args := [d1, d2, d3] }
  | _ => none }
def FnExactDiskAddWrongFalsely : Prop := fnExactDiskAddRow.holds Try.pinned (OpenSpec.ofChange fnExactDiskAddWrong)

/- THE SECOND FORM. 'bulk': how many values and letters a reading holds, each counted each time it is reached (what is shared counts as often as it is met; a slice's spare places count too). A statement '..UptoSaid' is the law's where the arguments, and the package variables that the reading takes, are together of bulk at most 1048576: NARROWER than '..Said'. Prove '..Said' where nothing that the law and all that it calls make is longer than what came in: it says more and counts as full. Else prove '..UptoSaid'. A law counts once. -/
mutual
def uptoBulk {H : Type} : DataW H → Nat
  | .lit (.string bytes) => bytes.length + 1
  | .lit _ => 1
  | .nil => 1
  | .ptr d => uptoBulk d + 1
  | .slice elems spare => uptoBulkAll elems + uptoBulkAll spare + 1
  | .agg parts => uptoBulkAll parts + 1
  | .iface _ d => uptoBulk d + 1
  | .map entries => uptoBulkEntries entries + 1
  | .held _ => 1
def uptoBulkAll {H : Type} : List (DataW H) → Nat
  | [] => 0
  | d :: r => uptoBulk d + uptoBulkAll r
def uptoBulkEntries {H : Type} : List (Lit × DataW H) → Nat
  | [] => 0
  | x :: r => uptoBulkEntry x + uptoBulkEntries r
def uptoBulkEntry {H : Type} : Lit × DataW H → Nat
  | (.string bytes, d) => bytes.length + uptoBulk d + 1
  | (_, d) => uptoBulk d + 1
 end
def uptoSmall : (H : Type) → List (DataW H) → Bool := fun _ ds => decide (uptoBulkAll ds ≤ 1048576)
def OpenSpec.upto (s : _root_.Go.ChangeSpec) : _root_.Go.OpenSpec := { _root_.Go.OpenSpec.ofChange s with cond := some uptoSmall }

/-- 'laws.FnExactMsgOk', WHERE WHAT IT READS IS OF BULK AT MOST 1048576: true; the input reads as it did. -/
def fnExactMsgOkUptoRow : OpenClaim := { program := "ytlmcpkijcadalaa", sum := "e29d8eddf39b1411c38ce5d627593e49caa23dd534389ddd6ccf82e9e288beb0", func := "loop.example/janitor/laws.FnExactMsgOk", spec := "fnExactMsgOk", apart := false, narrowed := true }
def FnExactMsgOkUptoSaid : Prop := fnExactMsgOkUptoRow.holds Try.pinned (OpenSpec.upto fnExactMsgOkSpec)

/-- 'laws.FnMsgOk', WHERE WHAT IT READS IS OF BULK AT MOST 1048576: true; the input reads as it did. -/
def fnMsgOkUptoRow : OpenClaim := { program := "ytlmcpkijcadalaa", sum := "e29d8eddf39b1411c38ce5d627593e49caa23dd534389ddd6ccf82e9e288beb0", func := "loop.example/janitor/laws.FnMsgOk", spec := "fnMsgOk", apart := false, narrowed := true }
def FnMsgOkUptoSaid : Prop := fnMsgOkUptoRow.holds Try.pinned (OpenSpec.upto fnMsgOkSpec)

/-- 'laws.FnNoteOk', WHERE WHAT IT READS IS OF BULK AT MOST 1048576: true; the input reads as it did. -/
def fnNoteOkUptoRow : OpenClaim := { program := "ytlmcpkijcadalaa", sum := "e29d8eddf39b1411c38ce5d627593e49caa23dd534389ddd6ccf82e9e288beb0", func := "loop.example/janitor/laws.FnNoteOk", spec := "fnNoteOk", apart := false, narrowed := true }
def FnNoteOkUptoSaid : Prop := fnNoteOkUptoRow.holds Try.pinned (OpenSpec.upto fnNoteOkSpec)

/-- 'laws.FnGloWay', WHERE WHAT IT READS IS OF BULK AT MOST 1048576: true; the input reads as it did. -/
def fnGloWayUptoRow : OpenClaim := { program := "ytlmcpkijcadalaa", sum := "e29d8eddf39b1411c38ce5d627593e49caa23dd534389ddd6ccf82e9e288beb0", func := "loop.example/janitor/laws.FnGloWay", spec := "fnGloWay", inPlace := ["internal/bytealg.abigen_runtime_cmpstring", "slices.overlaps[loop.example/janitor/impl.StoItem]"], unfollowed := true, recurses := true, apart := false, narrowed := true }
def FnGloWayUptoSaid : Prop := fnGloWayUptoRow.holds Try.pinned (OpenSpec.upto fnGloWaySpec)

/-- 'laws.FnGloTheft', WHERE WHAT IT READS IS OF BULK AT MOST 1048576: true; the input reads as it did. -/
def fnGloTheftUptoRow : OpenClaim := { program := "ytlmcpkijcadalaa", sum := "e29d8eddf39b1411c38ce5d627593e49caa23dd534389ddd6ccf82e9e288beb0", func := "loop.example/janitor/laws.FnGloTheft", spec := "fnGloTheft", inPlace := ["internal/bytealg.abigen_runtime_cmpstring", "slices.overlaps[loop.example/janitor/impl.StoItem]"], unfollowed := true, recurses := true, apart := false, narrowed := true }
def FnGloTheftUptoSaid : Prop := fnGloTheftUptoRow.holds Try.pinned (OpenSpec.upto fnGloTheftSpec)

/-- 'laws.FnGloCode', WHERE WHAT IT READS IS OF BULK AT MOST 1048576: true; the input reads as it did. -/
def fnGloCodeUptoRow : OpenClaim := { program := "ytlmcpkijcadalaa", sum := "e29d8eddf39b1411c38ce5d627593e49caa23dd534389ddd6ccf82e9e288beb0", func := "loop.example/janitor/laws.FnGloCode", spec := "fnGloCode", inPlace := ["internal/bytealg.abigen_runtime_cmpstring", "slices.overlaps[loop.example/janitor/impl.StoItem]"], unfollowed := true, recurses := true, apart := false, narrowed := true }
def FnGloCodeUptoSaid : Prop := fnGloCodeUptoRow.holds Try.pinned (OpenSpec.upto fnGloCodeSpec)

/-- 'laws.FnGloFam', WHERE WHAT IT READS IS OF BULK AT MOST 1048576: true; the input reads as it did. -/
def fnGloFamUptoRow : OpenClaim := { program := "ytlmcpkijcadalaa", sum := "e29d8eddf39b1411c38ce5d627593e49caa23dd534389ddd6ccf82e9e288beb0", func := "loop.example/janitor/laws.FnGloFam", spec := "fnGloFam", inPlace := ["internal/bytealg.abigen_runtime_cmpstring", "slices.overlaps[loop.example/janitor/impl.StoItem]"], unfollowed := true, recurses := true, apart := false, narrowed := true }
def FnGloFamUptoSaid : Prop := fnGloFamUptoRow.holds Try.pinned (OpenSpec.upto fnGloFamSpec)

/-- 'laws.FnGloOut', WHERE WHAT IT READS IS OF BULK AT MOST 1048576: true; the input reads as it did. -/
def fnGloOutUptoRow : OpenClaim := { program := "ytlmcpkijcadalaa", sum := "e29d8eddf39b1411c38ce5d627593e49caa23dd534389ddd6ccf82e9e288beb0", func := "loop.example/janitor/laws.FnGloOut", spec := "fnGloOut", inPlace := ["internal/bytealg.abigen_runtime_cmpstring", "slices.overlaps[loop.example/janitor/impl.StoItem]"], unfollowed := true, recurses := true, apart := false, narrowed := true }
def FnGloOutUptoSaid : Prop := fnGloOutUptoRow.holds Try.pinned (OpenSpec.upto fnGloOutSpec)

/-- 'laws.FnGloIn', WHERE WHAT IT READS IS OF BULK AT MOST 1048576: true; the input reads as it did. -/
def fnGloInUptoRow : OpenClaim := { program := "ytlmcpkijcadalaa", sum := "e29d8eddf39b1411c38ce5d627593e49caa23dd534389ddd6ccf82e9e288beb0", func := "loop.example/janitor/laws.FnGloIn", spec := "fnGloIn", inPlace := ["internal/bytealg.abigen_runtime_cmpstring", "slices.overlaps[loop.example/janitor/impl.StoItem]"], unfollowed := true, recurses := true, apart := false, narrowed := true }
def FnGloInUptoSaid : Prop := fnGloInUptoRow.holds Try.pinned (OpenSpec.upto fnGloInSpec)

/-- 'laws.FnGloDead', WHERE WHAT IT READS IS OF BULK AT MOST 1048576: true; the input reads as it did. -/
def fnGloDeadUptoRow : OpenClaim := { program := "ytlmcpkijcadalaa", sum := "e29d8eddf39b1411c38ce5d627593e49caa23dd534389ddd6ccf82e9e288beb0", func := "loop.example/janitor/laws.FnGloDead", spec := "fnGloDead", inPlace := ["internal/bytealg.abigen_runtime_cmpstring", "slices.overlaps[loop.example/janitor/impl.StoItem]"], unfollowed := true, recurses := true, apart := false, narrowed := true }
def FnGloDeadUptoSaid : Prop := fnGloDeadUptoRow.holds Try.pinned (OpenSpec.upto fnGloDeadSpec)

/-- 'laws.FnExactGloOk', WHERE WHAT IT READS IS OF BULK AT MOST 1048576: true; the input reads as it did. -/
def fnExactGloOkUptoRow : OpenClaim := { program := "ytlmcpkijcadalaa", sum := "e29d8eddf39b1411c38ce5d627593e49caa23dd534389ddd6ccf82e9e288beb0", func := "loop.example/janitor/laws.FnExactGloOk", spec := "fnExactGloOk", unfollowed := true, recurses := true, apart := false, narrowed := true }
def FnExactGloOkUptoSaid : Prop := fnExactGloOkUptoRow.holds Try.pinned (OpenSpec.upto fnExactGloOkSpec)

/-- 'laws.FnExactDiskAdd', WHERE WHAT IT READS IS OF BULK AT MOST 1048576: true; the input reads as it did. -/
def fnExactDiskAddUptoRow : OpenClaim := { program := "ytlmcpkijcadalaa", sum := "e29d8eddf39b1411c38ce5d627593e49caa23dd534389ddd6ccf82e9e288beb0", func := "loop.example/janitor/laws.FnExactDiskAdd", spec := "fnExactDiskAdd", unfollowed := true, recurses := true, apart := false, narrowed := true }
def FnExactDiskAddUptoSaid : Prop := fnExactDiskAddUptoRow.holds Try.pinned (OpenSpec.upto fnExactDiskAddSpec)

end Rows
end Go.Proofs.Ytlmcpkijcadalaa
