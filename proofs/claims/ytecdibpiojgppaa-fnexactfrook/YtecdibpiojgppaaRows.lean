/-
  No cell of these rows narrows 'for every input' (looked for: loops, veiled, ifaces, maps, wideKeys, modest, calm, conditions, laid).
  DERIVED. THE GIVEN ROWS OF THIS SEAT. 8 by the template 'for every input the law returns true; each argument reads behind the call as it read before'; 0 by the template 'total and deterministic' (their statements: YtecdibpiojgppaaTotals.lean).
  GIVEN WITH THE SEED: the statements are not yours to turn. If you find one false, say at which input.
  Laid BY PROGRAM, IN A SANDBOX (cutbox-rows.mjs): the forced cells as the released guide's own fill.sh prints them over the translation 6a538ea358f6ad5b… (all of the seat's roots in one cut). By AI agents, Wed Nov 11 2026. No macro, syntax, notation, axiom, sorry.
-/
import Derived.Test.YtecdibpiojgppaaChecked
import GoSem.Claim
import GoSem.ClaimJoined
import GoSem.ClaimMapViews
import Derived.JoinedTies
import Derived.KernelRfl
namespace Go.Proofs.Ytecdibpiojgppaa
/- THE CELL 'sum', in the pinned program and in every row, IS THE sha256 OF THE DUMP (.gsa) THAT YtecdibpiojgppaaProg.lean LOADS. Nothing in Lean hashes anything: it is a label: what it is worth is what the hold of that sum in a sandbox is worth. -/
noncomputable def Try.pinned : Pinned := { name := "ytecdibpiojgppaa", sum := "6a538ea358f6ad5b56696ab9b519f4cd63ce888bdd9cafccc07c50c7dca98dc9", checked := Try.checked }
namespace Rows
def none {H : Type} : Left H := { results := [], args := [] }

/-- 'laws.FnGloOk': WHATEVER THE INPUT: true; the input reads as it did. -/
def fnGloOkSpec : ChangeSpec := { name := "fnGloOk", fn := fun _ => fun
  | [d] => { results := [.lit (.bool true)], args := [d] }
  | _ => none }
def fnGloOkRow : OpenClaim := { program := "ytecdibpiojgppaa", sum := "6a538ea358f6ad5b56696ab9b519f4cd63ce888bdd9cafccc07c50c7dca98dc9", func := "loop.example/janitor/laws.FnGloOk", spec := "fnGloOk", unfollowed := true, recurses := true, apart := false }
def FnGloOkSaid : Prop := fnGloOkRow.holds Try.pinned (OpenSpec.ofChange fnGloOkSpec)

/-- ITS FALSE NEIGHBOUR: 'it returns false'. Refute it at one input. -/
def fnGloOkWrong : ChangeSpec := { name := "fnGloOk", fn := fun _ => fun
  | [d] => { results := [.lit (.bool false)], args := [d] }
  | _ => none }
def FnGloOkWrongFalsely : Prop := fnGloOkRow.holds Try.pinned (OpenSpec.ofChange fnGloOkWrong)

/-- 'laws.FnNoteOk': WHATEVER THE INPUT: true; the input reads as it did. -/
def fnNoteOkSpec : ChangeSpec := { name := "fnNoteOk", fn := fun _ => fun
  | [d] => { results := [.lit (.bool true)], args := [d] }
  | _ => none }
def fnNoteOkRow : OpenClaim := { program := "ytecdibpiojgppaa", sum := "6a538ea358f6ad5b56696ab9b519f4cd63ce888bdd9cafccc07c50c7dca98dc9", func := "loop.example/janitor/laws.FnNoteOk", spec := "fnNoteOk", apart := false }
def FnNoteOkSaid : Prop := fnNoteOkRow.holds Try.pinned (OpenSpec.ofChange fnNoteOkSpec)

/-- ITS FALSE NEIGHBOUR: 'it returns false'. Refute it at one input. -/
def fnNoteOkWrong : ChangeSpec := { name := "fnNoteOk", fn := fun _ => fun
  | [d] => { results := [.lit (.bool false)], args := [d] }
  | _ => none }
def FnNoteOkWrongFalsely : Prop := fnNoteOkRow.holds Try.pinned (OpenSpec.ofChange fnNoteOkWrong)

/-- 'laws.FnExactFroOk': WHATEVER THE INPUT: true; the input reads as it did. -/
def fnExactFroOkSpec : ChangeSpec := { name := "fnExactFroOk", fn := fun _ => fun
  | [d] => { results := [.lit (.bool true)], args := [d] }
  | _ => none }
def fnExactFroOkRow : OpenClaim := { program := "ytecdibpiojgppaa", sum := "6a538ea358f6ad5b56696ab9b519f4cd63ce888bdd9cafccc07c50c7dca98dc9", func := "loop.example/janitor/laws.FnExactFroOk", spec := "fnExactFroOk", unfollowed := true, recurses := true, apart := false }
def FnExactFroOkSaid : Prop := fnExactFroOkRow.holds Try.pinned (OpenSpec.ofChange fnExactFroOkSpec)

/-- ITS FALSE NEIGHBOUR: 'it returns false'. Refute it at one input. -/
def fnExactFroOkWrong : ChangeSpec := { name := "fnExactFroOk", fn := fun _ => fun
  | [d] => { results := [.lit (.bool false)], args := [d] }
  | _ => none }
def FnExactFroOkWrongFalsely : Prop := fnExactFroOkRow.holds Try.pinned (OpenSpec.ofChange fnExactFroOkWrong)

/-- 'laws.FnExactDiskAdd': WHATEVER THE INPUT: true; the input reads as it did. -/
def fnExactDiskAddSpec : ChangeSpec := { name := "fnExactDiskAdd", fn := fun _ => fun
  | [d1, d2, d3] => { results := [.lit (.bool true)], args := [d1, d2, d3] }
  | _ => none }
def fnExactDiskAddRow : OpenClaim := { program := "ytecdibpiojgppaa", sum := "6a538ea358f6ad5b56696ab9b519f4cd63ce888bdd9cafccc07c50c7dca98dc9", func := "loop.example/janitor/laws.FnExactDiskAdd", spec := "fnExactDiskAdd", unfollowed := true, recurses := true, apart := false }
def FnExactDiskAddSaid : Prop := fnExactDiskAddRow.holds Try.pinned (OpenSpec.ofChange fnExactDiskAddSpec)

/-- ITS FALSE NEIGHBOUR: 'it returns false'. Refute it at one input. -/
def fnExactDiskAddWrong : ChangeSpec := { name := "fnExactDiskAdd", fn := fun _ => fun
  | [d1, d2, d3] => { results := [.lit (.bool false)], args := [d1, d2, d3] }
  | _ => none }
def FnExactDiskAddWrongFalsely : Prop := fnExactDiskAddRow.holds Try.pinned (OpenSpec.ofChange fnExactDiskAddWrong)

/-- 'laws.FnExactWldNew': WHATEVER THE INPUT: true; the input reads as it did. -/
def fnExactWldNewSpec : ChangeSpec := { name := "fnExactWldNew", fn := fun _ => fun
  | [] => { results := [.lit (.bool true)], args := [] }
  | _ => none }
def fnExactWldNewRow : OpenClaim := { program := "ytecdibpiojgppaa", sum := "6a538ea358f6ad5b56696ab9b519f4cd63ce888bdd9cafccc07c50c7dca98dc9", func := "loop.example/janitor/laws.FnExactWldNew", spec := "fnExactWldNew", apart := false }
def FnExactWldNewSaid : Prop := fnExactWldNewRow.holds Try.pinned (OpenSpec.ofChange fnExactWldNewSpec)

/-- ITS FALSE NEIGHBOUR: 'it returns false'. Refute it at one input. -/
def fnExactWldNewWrong : ChangeSpec := { name := "fnExactWldNew", fn := fun _ => fun
  | [] => { results := [.lit (.bool false)], args := [] }
  | _ => none }
def FnExactWldNewWrongFalsely : Prop := fnExactWldNewRow.holds Try.pinned (OpenSpec.ofChange fnExactWldNewWrong)

/-- 'laws.FnExactDiskFall': WHATEVER THE INPUT: true; the input reads as it did. -/
def fnExactDiskFallSpec : ChangeSpec := { name := "fnExactDiskFall", fn := fun _ => fun
  | [d1, d2] => { results := [.lit (.bool true)], args := [d1, d2] }
  | _ => none }
def fnExactDiskFallRow : OpenClaim := { program := "ytecdibpiojgppaa", sum := "6a538ea358f6ad5b56696ab9b519f4cd63ce888bdd9cafccc07c50c7dca98dc9", func := "loop.example/janitor/laws.FnExactDiskFall", spec := "fnExactDiskFall", unfollowed := true, recurses := true, apart := false }
def FnExactDiskFallSaid : Prop := fnExactDiskFallRow.holds Try.pinned (OpenSpec.ofChange fnExactDiskFallSpec)

/-- ITS FALSE NEIGHBOUR: 'it returns false'. Refute it at one input. -/
def fnExactDiskFallWrong : ChangeSpec := { name := "fnExactDiskFall", fn := fun _ => fun
  | [d1, d2] => { results := [.lit (.bool false)], args := [d1, d2] }
  | _ => none }
def FnExactDiskFallWrongFalsely : Prop := fnExactDiskFallRow.holds Try.pinned (OpenSpec.ofChange fnExactDiskFallWrong)

/-- 'laws.FnDiskSafe': WHATEVER THE INPUT: true; the input reads as it did. -/
def fnDiskSafeSpec : ChangeSpec := { name := "fnDiskSafe", fn := fun _ => fun
  | [d] => { results := [.lit (.bool true)], args := [d] }
  | _ => none }
def fnDiskSafeRow : OpenClaim := { program := "ytecdibpiojgppaa", sum := "6a538ea358f6ad5b56696ab9b519f4cd63ce888bdd9cafccc07c50c7dca98dc9", func := "loop.example/janitor/laws.FnDiskSafe", spec := "fnDiskSafe", unfollowed := true, recurses := true, apart := false }
def FnDiskSafeSaid : Prop := fnDiskSafeRow.holds Try.pinned (OpenSpec.ofChange fnDiskSafeSpec)

/-- ITS FALSE NEIGHBOUR: 'it returns false'. Refute it at one input. -/
def fnDiskSafeWrong : ChangeSpec := { name := "fnDiskSafe", fn := fun _ => fun
  | [d] => { results := [.lit (.bool false)], args := [d] }
  | _ => none }
def FnDiskSafeWrongFalsely : Prop := fnDiskSafeRow.holds Try.pinned (OpenSpec.ofChange fnDiskSafeWrong)

/-- 'laws.FnExactDiskOpen': WHATEVER THE INPUT: true; the input reads as it did. -/
def fnExactDiskOpenSpec : ChangeSpec := { name := "fnExactDiskOpen", fn := fun _ => fun
  | [d] => { results := [.lit (.bool true)], args := [d] }
  | _ => none }
def fnExactDiskOpenRow : OpenClaim := { program := "ytecdibpiojgppaa", sum := "6a538ea358f6ad5b56696ab9b519f4cd63ce888bdd9cafccc07c50c7dca98dc9", func := "loop.example/janitor/laws.FnExactDiskOpen", spec := "fnExactDiskOpen", unfollowed := true, recurses := true, apart := false }
def FnExactDiskOpenSaid : Prop := fnExactDiskOpenRow.holds Try.pinned (OpenSpec.ofChange fnExactDiskOpenSpec)

/-- ITS FALSE NEIGHBOUR: 'it returns false'. Refute it at one input. -/
def fnExactDiskOpenWrong : ChangeSpec := { name := "fnExactDiskOpen", fn := fun _ => fun
  | [d] => { results := [.lit (.bool false)], args := [d] }
  | _ => none }
def FnExactDiskOpenWrongFalsely : Prop := fnExactDiskOpenRow.holds Try.pinned (OpenSpec.ofChange fnExactDiskOpenWrong)

/- THE SECOND FORM. 'bulk': how many values and letters a reading holds, each counted each time it is reached (what is shared counts as often as it is met; a slice's spare places count too). A statement '..UptoSaid' is the law's where the arguments, and the package variables that the reading takes, are together of bulk at most 1048576: NARROWER than '..Said'. Prove '..Said' where nothing that the law and all that it calls make is longer than what came in: it says more and counts as full. Else prove '..UptoSaid'. A law counts once. -/
mutual
def uptoBulk {H : Type} : DataW H → Nat
  | .lit (.string bytes) => bytes.length + 1
  | .lit _ => 1
  | .nil => 1
  | .ptr d => uptoBulk d + 1
  | .slice elems spare => uptoBulkAll elems + uptoBulkAll spare + 1
  | .agg parts => uptoBulkAll parts + 1
  | .iface _ d => uptoBulk d + 1
  | .map entries => uptoBulkEntries entries + 1
  | .held _ => 1
def uptoBulkAll {H : Type} : List (DataW H) → Nat
  | [] => 0
  | d :: r => uptoBulk d + uptoBulkAll r
def uptoBulkEntries {H : Type} : List (Lit × DataW H) → Nat
  | [] => 0
  | x :: r => uptoBulkEntry x + uptoBulkEntries r
def uptoBulkEntry {H : Type} : Lit × DataW H → Nat
  | (.string bytes, d) => bytes.length + uptoBulk d + 1
  | (_, d) => uptoBulk d + 1
 end
def uptoSmall : (H : Type) → List (DataW H) → Bool := fun _ ds => decide (uptoBulkAll ds ≤ 1048576)
def OpenSpec.upto (s : _root_.Go.ChangeSpec) : _root_.Go.OpenSpec := { _root_.Go.OpenSpec.ofChange s with cond := some uptoSmall }

/-- 'laws.FnGloOk', WHERE WHAT IT READS IS OF BULK AT MOST 1048576: true; the input reads as it did. -/
def fnGloOkUptoRow : OpenClaim := { program := "ytecdibpiojgppaa", sum := "6a538ea358f6ad5b56696ab9b519f4cd63ce888bdd9cafccc07c50c7dca98dc9", func := "loop.example/janitor/laws.FnGloOk", spec := "fnGloOk", unfollowed := true, recurses := true, apart := false, narrowed := true }
def FnGloOkUptoSaid : Prop := fnGloOkUptoRow.holds Try.pinned (OpenSpec.upto fnGloOkSpec)

/-- 'laws.FnNoteOk', WHERE WHAT IT READS IS OF BULK AT MOST 1048576: true; the input reads as it did. -/
def fnNoteOkUptoRow : OpenClaim := { program := "ytecdibpiojgppaa", sum := "6a538ea358f6ad5b56696ab9b519f4cd63ce888bdd9cafccc07c50c7dca98dc9", func := "loop.example/janitor/laws.FnNoteOk", spec := "fnNoteOk", apart := false, narrowed := true }
def FnNoteOkUptoSaid : Prop := fnNoteOkUptoRow.holds Try.pinned (OpenSpec.upto fnNoteOkSpec)

/-- 'laws.FnExactFroOk', WHERE WHAT IT READS IS OF BULK AT MOST 1048576: true; the input reads as it did. -/
def fnExactFroOkUptoRow : OpenClaim := { program := "ytecdibpiojgppaa", sum := "6a538ea358f6ad5b56696ab9b519f4cd63ce888bdd9cafccc07c50c7dca98dc9", func := "loop.example/janitor/laws.FnExactFroOk", spec := "fnExactFroOk", unfollowed := true, recurses := true, apart := false, narrowed := true }
def FnExactFroOkUptoSaid : Prop := fnExactFroOkUptoRow.holds Try.pinned (OpenSpec.upto fnExactFroOkSpec)

/-- 'laws.FnExactDiskAdd', WHERE WHAT IT READS IS OF BULK AT MOST 1048576: true; the input reads as it did. -/
def fnExactDiskAddUptoRow : OpenClaim := { program := "ytecdibpiojgppaa", sum := "6a538ea358f6ad5b56696ab9b519f4cd63ce888bdd9cafccc07c50c7dca98dc9", func := "loop.example/janitor/laws.FnExactDiskAdd", spec := "fnExactDiskAdd", unfollowed := true, recurses := true, apart := false, narrowed := true }
def FnExactDiskAddUptoSaid : Prop := fnExactDiskAddUptoRow.holds Try.pinned (OpenSpec.upto fnExactDiskAddSpec)

/-- 'laws.FnExactWldNew', WHERE WHAT IT READS IS OF BULK AT MOST 1048576: true; the input reads as it did. -/
def fnExactWldNewUptoRow : OpenClaim := { program := "ytecdibpiojgppaa", sum := "6a538ea358f6ad5b56696ab9b519f4cd63ce888bdd9cafccc07c50c7dca98dc9", func := "loop.example/janitor/laws.FnExactWldNew", spec := "fnExactWldNew", apart := false, narrowed := true }
def FnExactWldNewUptoSaid : Prop := fnExactWldNewUptoRow.holds Try.pinned (OpenSpec.upto fnExactWldNewSpec)

/-- 'laws.FnExactDiskFall', WHERE WHAT IT READS IS OF BULK AT MOST 1048576: true; the input reads as it did. -/
def fnExactDiskFallUptoRow : OpenClaim := { program := "ytecdibpiojgppaa", sum := "6a538ea358f6ad5b56696ab9b519f4cd63ce888bdd9cafccc07c50c7dca98dc9", func := "loop.example/janitor/laws.FnExactDiskFall", spec := "fnExactDiskFall", unfollowed := true, recurses := true, apart := false, narrowed := true }
def FnExactDiskFallUptoSaid : Prop := fnExactDiskFallUptoRow.holds Try.pinned (OpenSpec.upto fnExactDiskFallSpec)

/-- 'laws.FnDiskSafe', WHERE WHAT IT READS IS OF BULK AT MOST 1048576: true; the input reads as it did. -/
def fnDiskSafeUptoRow : OpenClaim := { program := "ytecdibpiojgppaa", sum := "6a538ea358f6ad5b56696ab9b519f4cd63ce888bdd9cafccc07c50c7dca98dc9", func := "loop.example/janitor/laws.FnDiskSafe", spec := "fnDiskSafe", unfollowed := true, recurses := true, apart := false, narrowed := true }
def FnDiskSafeUptoSaid : Prop := fnDiskSafeUptoRow.holds Try.pinned (OpenSpec.upto fnDiskSafeSpec)

/-- 'laws.FnExactDiskOpen', WHERE WHAT IT READS IS OF BULK AT MOST 1048576: true; the input reads as it did. -/
def fnExactDiskOpenUptoRow : OpenClaim := { program := "ytecdibpiojgppaa", sum := "6a538ea358f6ad5b56696ab9b519f4cd63ce888bdd9cafccc07c50c7dca98dc9", func := "loop.example/janitor/laws.FnExactDiskOpen", spec := "fnExactDiskOpen", unfollowed := true, recurses := true, apart := false, narrowed := true }
def FnExactDiskOpenUptoSaid : Prop := fnExactDiskOpenUptoRow.holds Try.pinned (OpenSpec.upto fnExactDiskOpenSpec)

end Rows
end Go.Proofs.Ytecdibpiojgppaa
