/-
  No cell of these rows narrows 'for every input' (looked for: loops, veiled, ifaces, maps, wideKeys, modest, calm, conditions, laid).
  DERIVED. THE GIVEN ROWS OF THIS SEAT. 10 by the template 'for every input the law returns true; each argument reads behind the call as it read before'; 0 by the template 'total and deterministic' (their statements: YtgapjkcjnlbgaaaTotals.lean).
  GIVEN WITH THE SEED: the statements are not yours to turn. If you find one false, say at which input.
  Laid BY PROGRAM, IN A SANDBOX (cutbox-rows.mjs): the forced cells as the released guide's own fill.sh prints them over the translation c04543d1eafef744… (all of the seat's roots in one cut). By AI agents, Wed Nov 11 2026. No macro, syntax, notation, axiom, sorry.
-/
import Derived.Test.YtgapjkcjnlbgaaaChecked
import GoSem.Claim
import GoSem.ClaimJoined
import GoSem.ClaimMapViews
import Derived.JoinedTies
import Derived.KernelRfl
namespace Go.Proofs.Ytgapjkcjnlbgaaa
/- THE CELL 'sum', in the pinned program and in every row, IS THE sha256 OF THE DUMP (.gsa) THAT YtgapjkcjnlbgaaaProg.lean LOADS. Nothing in Lean hashes anything: it is a label: what it is worth is what the hold of that sum in a sandbox is worth. -/
noncomputable def Try.pinned : Pinned := { name := "ytgapjkcjnlbgaaa", sum := "c04543d1eafef7448f51fb6cd07c63d9eee4ab3b782339a7617b961e931c41d3", checked := Try.checked }
namespace Rows
def none {H : Type} : Left H := { results := [], args := [] }

/-- 'laws.FnStoOk': WHATEVER THE INPUT: true; the input reads as it did. -/
def fnStoOkSpec : ChangeSpec := { name := "fnStoOk", fn := fun _ => fun
  | [d] => { results := [.lit (.bool true)], args := [d] }
  | _ => none }
def fnStoOkRow : OpenClaim := { program := "ytgapjkcjnlbgaaa", sum := "c04543d1eafef7448f51fb6cd07c63d9eee4ab3b782339a7617b961e931c41d3", func := "loop.example/janitor/laws.FnStoOk", spec := "fnStoOk", unfollowed := true, recurses := true, apart := false }
def FnStoOkSaid : Prop := fnStoOkRow.holds Try.pinned (OpenSpec.ofChange fnStoOkSpec)

/-- ITS FALSE NEIGHBOUR: 'it returns false'. Refute it at one input. -/
def fnStoOkWrong : ChangeSpec := { name := "fnStoOk", fn := fun _ => fun
  | [d] => { results := [.lit (.bool false)], args := [d] }
  | _ => none }
def FnStoOkWrongFalsely : Prop := fnStoOkRow.holds Try.pinned (OpenSpec.ofChange fnStoOkWrong)

/-- 'laws.FnStoGet': WHATEVER THE INPUT: true; the input reads as it did. -/
def fnStoGetSpec : ChangeSpec := { name := "fnStoGet", fn := fun _ => fun
  | [d] => { results := [.lit (.bool true)], args := [d] }
  | _ => none }
def fnStoGetRow : OpenClaim := { program := "ytgapjkcjnlbgaaa", sum := "c04543d1eafef7448f51fb6cd07c63d9eee4ab3b782339a7617b961e931c41d3", func := "loop.example/janitor/laws.FnStoGet", spec := "fnStoGet", inPlace := ["internal/bytealg.abigen_runtime_cmpstring"], unfollowed := true, recurses := true, apart := false }
def FnStoGetSaid : Prop := fnStoGetRow.holds Try.pinned (OpenSpec.ofChange fnStoGetSpec)

/-- ITS FALSE NEIGHBOUR: 'it returns false'. Refute it at one input. -/
def fnStoGetWrong : ChangeSpec := { name := "fnStoGet", fn := fun _ => fun
  | [d] => { results := [.lit (.bool false)], args := [d] }
  | _ => none }
def FnStoGetWrongFalsely : Prop := fnStoGetRow.holds Try.pinned (OpenSpec.ofChange fnStoGetWrong)

/-- 'laws.FnStoDo': WHATEVER THE INPUT: true; the input reads as it did. -/
def fnStoDoSpec : ChangeSpec := { name := "fnStoDo", fn := fun _ => fun
  | [d] => { results := [.lit (.bool true)], args := [d] }
  | _ => none }
def fnStoDoRow : OpenClaim := { program := "ytgapjkcjnlbgaaa", sum := "c04543d1eafef7448f51fb6cd07c63d9eee4ab3b782339a7617b961e931c41d3", func := "loop.example/janitor/laws.FnStoDo", spec := "fnStoDo", inPlace := ["internal/bytealg.abigen_runtime_cmpstring", "slices.overlaps[loop.example/janitor/impl.StoItem]"], unfollowed := true, recurses := true, apart := false }
def FnStoDoSaid : Prop := fnStoDoRow.holds Try.pinned (OpenSpec.ofChange fnStoDoSpec)

/-- ITS FALSE NEIGHBOUR: 'it returns false'. Refute it at one input. -/
def fnStoDoWrong : ChangeSpec := { name := "fnStoDo", fn := fun _ => fun
  | [d] => { results := [.lit (.bool false)], args := [d] }
  | _ => none }
def FnStoDoWrongFalsely : Prop := fnStoDoRow.holds Try.pinned (OpenSpec.ofChange fnStoDoWrong)

/-- 'laws.FnStoTwo': WHATEVER THE INPUT: true; the input reads as it did. -/
def fnStoTwoSpec : ChangeSpec := { name := "fnStoTwo", fn := fun _ => fun
  | [d1, d2] => { results := [.lit (.bool true)], args := [d1, d2] }
  | _ => none }
def fnStoTwoRow : OpenClaim := { program := "ytgapjkcjnlbgaaa", sum := "c04543d1eafef7448f51fb6cd07c63d9eee4ab3b782339a7617b961e931c41d3", func := "loop.example/janitor/laws.FnStoTwo", spec := "fnStoTwo", inPlace := ["internal/bytealg.abigen_runtime_cmpstring", "slices.overlaps[loop.example/janitor/impl.StoItem]"], unfollowed := true, recurses := true, apart := false }
def FnStoTwoSaid : Prop := fnStoTwoRow.holds Try.pinned (OpenSpec.ofChange fnStoTwoSpec)

/-- ITS FALSE NEIGHBOUR: 'it returns false'. Refute it at one input. -/
def fnStoTwoWrong : ChangeSpec := { name := "fnStoTwo", fn := fun _ => fun
  | [d1, d2] => { results := [.lit (.bool false)], args := [d1, d2] }
  | _ => none }
def FnStoTwoWrongFalsely : Prop := fnStoTwoRow.holds Try.pinned (OpenSpec.ofChange fnStoTwoWrong)

/-- 'laws.FnWrtOk': WHATEVER THE INPUT: true; the input reads as it did. -/
def fnWrtOkSpec : ChangeSpec := { name := "fnWrtOk", fn := fun _ => fun
  | [d] => { results := [.lit (.bool true)], args := [d] }
  | _ => none }
def fnWrtOkRow : OpenClaim := { program := "ytgapjkcjnlbgaaa", sum := "c04543d1eafef7448f51fb6cd07c63d9eee4ab3b782339a7617b961e931c41d3", func := "loop.example/janitor/laws.FnWrtOk", spec := "fnWrtOk", apart := false }
def FnWrtOkSaid : Prop := fnWrtOkRow.holds Try.pinned (OpenSpec.ofChange fnWrtOkSpec)

/-- ITS FALSE NEIGHBOUR: 'it returns false'. Refute it at one input. -/
def fnWrtOkWrong : ChangeSpec := { name := "fnWrtOk", fn := fun _ => fun
  | [d] => { results := [.lit (.bool false)], args := [d] }
  | _ => none }
def FnWrtOkWrongFalsely : Prop := fnWrtOkRow.holds Try.pinned (OpenSpec.ofChange fnWrtOkWrong)

/-- 'laws.FnStoAgain': WHATEVER THE INPUT: true; the input reads as it did. -/
def fnStoAgainSpec : ChangeSpec := { name := "fnStoAgain", fn := fun _ => fun
  | [d] => { results := [.lit (.bool true)], args := [d] }
  | _ => none }
def fnStoAgainRow : OpenClaim := { program := "ytgapjkcjnlbgaaa", sum := "c04543d1eafef7448f51fb6cd07c63d9eee4ab3b782339a7617b961e931c41d3", func := "loop.example/janitor/laws.FnStoAgain", spec := "fnStoAgain", inPlace := ["internal/bytealg.abigen_runtime_cmpstring", "slices.overlaps[loop.example/janitor/impl.StoItem]"], unfollowed := true, recurses := true, apart := false }
def FnStoAgainSaid : Prop := fnStoAgainRow.holds Try.pinned (OpenSpec.ofChange fnStoAgainSpec)

/-- ITS FALSE NEIGHBOUR: 'it returns false'. Refute it at one input. -/
def fnStoAgainWrong : ChangeSpec := { name := "fnStoAgain", fn := fun _ => fun
  | [d] => { results := [.lit (.bool false)], args := [d] }
  | _ => none }
def FnStoAgainWrongFalsely : Prop := fnStoAgainRow.holds Try.pinned (OpenSpec.ofChange fnStoAgainWrong)

/-- 'laws.FnExactStoOk': WHATEVER THE INPUT: true; the input reads as it did. -/
def fnExactStoOkSpec : ChangeSpec := { name := "fnExactStoOk", fn := fun _ => fun
  | [d] => { results := [.lit (.bool true)], args := [d] }
  | _ => none }
def fnExactStoOkRow : OpenClaim := { program := "ytgapjkcjnlbgaaa", sum := "c04543d1eafef7448f51fb6cd07c63d9eee4ab3b782339a7617b961e931c41d3", func := "loop.example/janitor/laws.FnExactStoOk", spec := "fnExactStoOk", unfollowed := true, recurses := true, apart := false }
def FnExactStoOkSaid : Prop := fnExactStoOkRow.holds Try.pinned (OpenSpec.ofChange fnExactStoOkSpec)

/-- ITS FALSE NEIGHBOUR: 'it returns false'. Refute it at one input. -/
def fnExactStoOkWrong : ChangeSpec := { name := "fnExactStoOk", fn := fun _ => fun
  | [d] => { results := [.lit (.bool false)], args := [d] }
  | _ => none }
def FnExactStoOkWrongFalsely : Prop := fnExactStoOkRow.holds Try.pinned (OpenSpec.ofChange fnExactStoOkWrong)

/-- 'laws.FnExactStoGet': WHATEVER THE INPUT: true; the input reads as it did. -/
def fnExactStoGetSpec : ChangeSpec := { name := "fnExactStoGet", fn := fun _ => fun
  | [d1, d2] => { results := [.lit (.bool true)], args := [d1, d2] }
  | _ => none }
def fnExactStoGetRow : OpenClaim := { program := "ytgapjkcjnlbgaaa", sum := "c04543d1eafef7448f51fb6cd07c63d9eee4ab3b782339a7617b961e931c41d3", func := "loop.example/janitor/laws.FnExactStoGet", spec := "fnExactStoGet", inPlace := ["internal/bytealg.abigen_runtime_cmpstring"], unfollowed := true, recurses := true, apart := false }
def FnExactStoGetSaid : Prop := fnExactStoGetRow.holds Try.pinned (OpenSpec.ofChange fnExactStoGetSpec)

/-- ITS FALSE NEIGHBOUR: 'it returns false'. Refute it at one input. -/
def fnExactStoGetWrong : ChangeSpec := { name := "fnExactStoGet", fn := fun _ => fun
  | [d1, d2] => { results := [.lit (.bool false)], args := [d1, d2] }
  | _ => none }
def FnExactStoGetWrongFalsely : Prop := fnExactStoGetRow.holds Try.pinned (OpenSpec.ofChange fnExactStoGetWrong)

/-- 'laws.FnExactWrtOk': WHATEVER THE INPUT: true; the input reads as it did. -/
def fnExactWrtOkSpec : ChangeSpec := { name := "fnExactWrtOk", fn := fun _ => fun
  | [d] => { results := [.lit (.bool true)], args := [d] }
  | _ => none }
def fnExactWrtOkRow : OpenClaim := { program := "ytgapjkcjnlbgaaa", sum := "c04543d1eafef7448f51fb6cd07c63d9eee4ab3b782339a7617b961e931c41d3", func := "loop.example/janitor/laws.FnExactWrtOk", spec := "fnExactWrtOk", apart := false }
def FnExactWrtOkSaid : Prop := fnExactWrtOkRow.holds Try.pinned (OpenSpec.ofChange fnExactWrtOkSpec)

/-- ITS FALSE NEIGHBOUR: 'it returns false'. Refute it at one input. -/
def fnExactWrtOkWrong : ChangeSpec := { name := "fnExactWrtOk", fn := fun _ => fun
  | [d] => { results := [.lit (.bool false)], args := [d] }
  | _ => none }
def FnExactWrtOkWrongFalsely : Prop := fnExactWrtOkRow.holds Try.pinned (OpenSpec.ofChange fnExactWrtOkWrong)

/-- 'laws.FnExactStoDo': WHATEVER THE INPUT: true; the input reads as it did. -/
def fnExactStoDoSpec : ChangeSpec := { name := "fnExactStoDo", fn := fun _ => fun
  | [d1, d2] => { results := [.lit (.bool true)], args := [d1, d2] }
  | _ => none }
def fnExactStoDoRow : OpenClaim := { program := "ytgapjkcjnlbgaaa", sum := "c04543d1eafef7448f51fb6cd07c63d9eee4ab3b782339a7617b961e931c41d3", func := "loop.example/janitor/laws.FnExactStoDo", spec := "fnExactStoDo", inPlace := ["internal/bytealg.abigen_runtime_cmpstring", "slices.overlaps[loop.example/janitor/impl.StoItem]"], unfollowed := true, recurses := true, apart := false }
def FnExactStoDoSaid : Prop := fnExactStoDoRow.holds Try.pinned (OpenSpec.ofChange fnExactStoDoSpec)

/-- ITS FALSE NEIGHBOUR: 'it returns false'. Refute it at one input. -/
def fnExactStoDoWrong : ChangeSpec := { name := "fnExactStoDo", fn := fun _ => fun
  | [d1, d2] => { results := [.lit (.bool false)], args := [d1, d2] }
  | _ => none }
def FnExactStoDoWrongFalsely : Prop := fnExactStoDoRow.holds Try.pinned (OpenSpec.ofChange fnExactStoDoWrong)

/- THE SECOND FORM. 'bulk': how many values and letters a reading holds, each counted each time it is reached (what is shared counts as often as it is met; a slice's spare places count too). A statement '..UptoSaid' is the law's where the arguments, and the package variables that the reading takes, are together of bulk at most 1048576: NARROWER than '..Said'. Prove '..Said' where nothing that the law and all that it calls make is longer than what came in: it says more and counts as full. Else prove '..UptoSaid'. A law counts once. -/
mutual
def uptoBulk {H : Type} : DataW H → Nat
  | .lit (.string bytes) => bytes.length + 1
  | .lit _ => 1
  | .nil => 1
  | .ptr d => uptoBulk d + 1
  | .slice elems spare => uptoBulkAll elems + uptoBulkAll spare + 1
  | .agg parts => uptoBulkAll parts + 1
  | .iface _ d => uptoBulk d + 1
  | .map entries => uptoBulkEntries entries + 1
  | .held _ => 1
def uptoBulkAll {H : Type} : List (DataW H) → Nat
  | [] => 0
  | d :: r => uptoBulk d + uptoBulkAll r
def uptoBulkEntries {H : Type} : List (Lit × DataW H) → Nat
  | [] => 0
  | x :: r => uptoBulkEntry x + uptoBulkEntries r
def uptoBulkEntry {H : Type} : Lit × DataW H → Nat
  | (.string bytes, d) => bytes.length + uptoBulk d + 1
  | (_, d) => uptoBulk d + 1
 end
def uptoSmall : (H : Type) → List (DataW H) → Bool := fun _ ds => decide (uptoBulkAll ds ≤ 1048576)
def OpenSpec.upto (s : _root_.Go.ChangeSpec) : _root_.Go.OpenSpec := { _root_.Go.OpenSpec.ofChange s with cond := some uptoSmall }

/-- 'laws.FnStoOk', WHERE WHAT IT READS IS OF BULK AT MOST 1048576: true; the input reads as it did. -/
def fnStoOkUptoRow : OpenClaim := { program := "ytgapjkcjnlbgaaa", sum := "c04543d1eafef7448f51fb6cd07c63d9eee4ab3b782339a7617b961e931c41d3", func := "loop.example/janitor/laws.FnStoOk", spec := "fnStoOk", unfollowed := true, recurses := true, apart := false, narrowed := true }
def FnStoOkUptoSaid : Prop := fnStoOkUptoRow.holds Try.pinned (OpenSpec.upto fnStoOkSpec)

/-- 'laws.FnStoGet', WHERE WHAT IT READS IS OF BULK AT MOST 1048576: true; the input reads as it did. -/
def fnStoGetUptoRow : OpenClaim := { program := "ytgapjkcjnlbgaaa", sum := "c04543d1eafef7448f51fb6cd07c63d9eee4ab3b782339a7617b961e931c41d3", func := "loop.example/janitor/laws.FnStoGet", spec := "fnStoGet", inPlace := ["internal/bytealg.abigen_runtime_cmpstring"], unfollowed := true, recurses := true, apart := false, narrowed := true }
def FnStoGetUptoSaid : Prop := fnStoGetUptoRow.holds Try.pinned (OpenSpec.upto fnStoGetSpec)

/-- 'laws.FnStoDo', WHERE WHAT IT READS IS OF BULK AT MOST 1048576: true; the input reads as it did. -/
def fnStoDoUptoRow : OpenClaim := { program := "ytgapjkcjnlbgaaa", sum := "c04543d1eafef7448f51fb6cd07c63d9eee4ab3b782339a7617b961e931c41d3", func := "loop.example/janitor/laws.FnStoDo", spec := "fnStoDo", inPlace := ["internal/bytealg.abigen_runtime_cmpstring", "slices.overlaps[loop.example/janitor/impl.StoItem]"], unfollowed := true, recurses := true, apart := false, narrowed := true }
def FnStoDoUptoSaid : Prop := fnStoDoUptoRow.holds Try.pinned (OpenSpec.upto fnStoDoSpec)

/-- 'laws.FnStoTwo', WHERE WHAT IT READS IS OF BULK AT MOST 1048576: true; the input reads as it did. -/
def fnStoTwoUptoRow : OpenClaim := { program := "ytgapjkcjnlbgaaa", sum := "c04543d1eafef7448f51fb6cd07c63d9eee4ab3b782339a7617b961e931c41d3", func := "loop.example/janitor/laws.FnStoTwo", spec := "fnStoTwo", inPlace := ["internal/bytealg.abigen_runtime_cmpstring", "slices.overlaps[loop.example/janitor/impl.StoItem]"], unfollowed := true, recurses := true, apart := false, narrowed := true }
def FnStoTwoUptoSaid : Prop := fnStoTwoUptoRow.holds Try.pinned (OpenSpec.upto fnStoTwoSpec)

/-- 'laws.FnWrtOk', WHERE WHAT IT READS IS OF BULK AT MOST 1048576: true; the input reads as it did. -/
def fnWrtOkUptoRow : OpenClaim := { program := "ytgapjkcjnlbgaaa", sum := "c04543d1eafef7448f51fb6cd07c63d9eee4ab3b782339a7617b961e931c41d3", func := "loop.example/janitor/laws.FnWrtOk", spec := "fnWrtOk", apart := false, narrowed := true }
def FnWrtOkUptoSaid : Prop := fnWrtOkUptoRow.holds Try.pinned (OpenSpec.upto fnWrtOkSpec)

/-- 'laws.FnStoAgain', WHERE WHAT IT READS IS OF BULK AT MOST 1048576: true; the input reads as it did. -/
def fnStoAgainUptoRow : OpenClaim := { program := "ytgapjkcjnlbgaaa", sum := "c04543d1eafef7448f51fb6cd07c63d9eee4ab3b782339a7617b961e931c41d3", func := "loop.example/janitor/laws.FnStoAgain", spec := "fnStoAgain", inPlace := ["internal/bytealg.abigen_runtime_cmpstring", "slices.overlaps[loop.example/janitor/impl.StoItem]"], unfollowed := true, recurses := true, apart := false, narrowed := true }
def FnStoAgainUptoSaid : Prop := fnStoAgainUptoRow.holds Try.pinned (OpenSpec.upto fnStoAgainSpec)

/-- 'laws.FnExactStoOk', WHERE WHAT IT READS IS OF BULK AT MOST 1048576: true; the input reads as it did. -/
def fnExactStoOkUptoRow : OpenClaim := { program := "ytgapjkcjnlbgaaa", sum := "c04543d1eafef7448f51fb6cd07c63d9eee4ab3b782339a7617b961e931c41d3", func := "loop.example/janitor/laws.FnExactStoOk", spec := "fnExactStoOk", unfollowed := true, recurses := true, apart := false, narrowed := true }
def FnExactStoOkUptoSaid : Prop := fnExactStoOkUptoRow.holds Try.pinned (OpenSpec.upto fnExactStoOkSpec)

/-- 'laws.FnExactStoGet', WHERE WHAT IT READS IS OF BULK AT MOST 1048576: true; the input reads as it did. -/
def fnExactStoGetUptoRow : OpenClaim := { program := "ytgapjkcjnlbgaaa", sum := "c04543d1eafef7448f51fb6cd07c63d9eee4ab3b782339a7617b961e931c41d3", func := "loop.example/janitor/laws.FnExactStoGet", spec := "fnExactStoGet", inPlace := ["internal/bytealg.abigen_runtime_cmpstring"], unfollowed := true, recurses := true, apart := false, narrowed := true }
def FnExactStoGetUptoSaid : Prop := fnExactStoGetUptoRow.holds Try.pinned (OpenSpec.upto fnExactStoGetSpec)

/-- 'laws.FnExactWrtOk', WHERE WHAT IT READS IS OF BULK AT MOST 1048576: true; the input reads as it did. -/
def fnExactWrtOkUptoRow : OpenClaim := { program := "ytgapjkcjnlbgaaa", sum := "c04543d1eafef7448f51fb6cd07c63d9eee4ab3b782339a7617b961e931c41d3", func := "loop.example/janitor/laws.FnExactWrtOk", spec := "fnExactWrtOk", apart := false, narrowed := true }
def FnExactWrtOkUptoSaid : Prop := fnExactWrtOkUptoRow.holds Try.pinned (OpenSpec.upto fnExactWrtOkSpec)

/-- 'laws.FnExactStoDo', WHERE WHAT IT READS IS OF BULK AT MOST 1048576: true; the input reads as it did. -/
def fnExactStoDoUptoRow : OpenClaim := { program := "ytgapjkcjnlbgaaa", sum := "c04543d1eafef7448f51fb6cd07c63d9eee4ab3b782339a7617b961e931c41d3", func := "loop.example/janitor/laws.FnExactStoDo", spec := "fnExactStoDo", inPlace := ["internal/bytealg.abigen_runtime_cmpstring", "slices.overlaps[loop.example/janitor/impl.StoItem]"], unfollowed := true, recurses := true, apart := false, narrowed := true }
def FnExactStoDoUptoSaid : Prop := fnExactStoDoUptoRow.holds Try.pinned (OpenSpec.upto fnExactStoDoSpec)

end Rows
end Go.Proofs.Ytgapjkcjnlbgaaa
