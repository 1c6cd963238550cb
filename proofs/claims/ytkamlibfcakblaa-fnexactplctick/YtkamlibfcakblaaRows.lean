/-
  No cell of these rows narrows 'for every input' (looked for: loops, veiled, ifaces, maps, wideKeys, modest, calm, conditions, laid).
  DERIVED. THE GIVEN ROWS OF THIS SEAT. 9 by the template 'for every input the law returns true; each argument reads behind the call as it read before'; 0 by the template 'total and deterministic' (their statements: YtkamlibfcakblaaTotals.lean).
  GIVEN WITH THE SEED: the statements are not yours to turn. If you find one false, say at which input.
  Laid BY PROGRAM, IN A SANDBOX (cutbox-rows.mjs): the forced cells as the released guide's own fill.sh prints them over the translation d94a6a02e900bd25… (all of the seat's roots in one cut). By AI agents, Wed Nov 11 2026. No macro, syntax, notation, axiom, sorry.
-/
import Derived.Test.YtkamlibfcakblaaChecked
import GoSem.Claim
import GoSem.ClaimJoined
import GoSem.ClaimMapViews
import Derived.JoinedTies
import Derived.KernelRfl
namespace Go.Proofs.Ytkamlibfcakblaa
/- THE CELL 'sum', in the pinned program and in every row, IS THE sha256 OF THE DUMP (.gsa) THAT YtkamlibfcakblaaProg.lean LOADS. Nothing in Lean hashes anything: it is a label: what it is worth is what the hold of that sum in a sandbox is worth. -/
noncomputable def Try.pinned : Pinned := { name := "ytkamlibfcakblaa", sum := "d94a6a02e900bd25cab7540731b053c0862bc61d12a7df02ff25f051f84d84e6", checked := Try.checked }
namespace Rows
def none {H : Type} : Left H := { results := [], args := [] }

/-- 'laws.FnDiskOf': WHATEVER THE INPUT: true; the input reads as it did. -/
def fnDiskOfSpec : ChangeSpec := { name := "fnDiskOf", fn := fun _ => fun
  | [d] => { results := [.lit (.bool true)], args := [d] }
  | _ => none }
def fnDiskOfRow : OpenClaim := { program := "ytkamlibfcakblaa", sum := "d94a6a02e900bd25cab7540731b053c0862bc61d12a7df02ff25f051f84d84e6", func := "loop.example/janitor/laws.FnDiskOf", spec := "fnDiskOf", unfollowed := true, recurses := true, apart := false }
def FnDiskOfSaid : Prop := fnDiskOfRow.holds Try.pinned (OpenSpec.ofChange fnDiskOfSpec)

/-- ITS FALSE NEIGHBOUR: 'it returns false'. Refute it at one input. -/
def fnDiskOfWrong : ChangeSpec := { name := "fnDiskOf", fn := fun _ => fun
  | [d] => { results := [.lit (.bool false)], args := [d] }
  | _ => none }
def FnDiskOfWrongFalsely : Prop := fnDiskOfRow.holds Try.pinned (OpenSpec.ofChange fnDiskOfWrong)

/-- 'laws.FnDiskOpen': WHATEVER THE INPUT: true; the input reads as it did. -/
def fnDiskOpenSpec : ChangeSpec := { name := "fnDiskOpen", fn := fun _ => fun
  | [d1, d2] => { results := [.lit (.bool true)], args := [d1, d2] }
  | _ => none }
def fnDiskOpenRow : OpenClaim := { program := "ytkamlibfcakblaa", sum := "d94a6a02e900bd25cab7540731b053c0862bc61d12a7df02ff25f051f84d84e6", func := "loop.example/janitor/laws.FnDiskOpen", spec := "fnDiskOpen", unfollowed := true, recurses := true, apart := false }
def FnDiskOpenSaid : Prop := fnDiskOpenRow.holds Try.pinned (OpenSpec.ofChange fnDiskOpenSpec)

/-- ITS FALSE NEIGHBOUR: 'it returns false'. Refute it at one input. -/
def fnDiskOpenWrong : ChangeSpec := { name := "fnDiskOpen", fn := fun _ => fun
  | [d1, d2] => { results := [.lit (.bool false)], args := [d1, d2] }
  | _ => none }
def FnDiskOpenWrongFalsely : Prop := fnDiskOpenRow.holds Try.pinned (OpenSpec.ofChange fnDiskOpenWrong)

/-- 'laws.FnDiskSafe': WHATEVER THE INPUT: true; the input reads as it did. -/
def fnDiskSafeSpec : ChangeSpec := { name := "fnDiskSafe", fn := fun _ => fun
  | [d] => { results := [.lit (.bool true)], args := [d] }
  | _ => none }
def fnDiskSafeRow : OpenClaim := { program := "ytkamlibfcakblaa", sum := "d94a6a02e900bd25cab7540731b053c0862bc61d12a7df02ff25f051f84d84e6", func := "loop.example/janitor/laws.FnDiskSafe", spec := "fnDiskSafe", unfollowed := true, recurses := true, apart := false }
def FnDiskSafeSaid : Prop := fnDiskSafeRow.holds Try.pinned (OpenSpec.ofChange fnDiskSafeSpec)

/-- ITS FALSE NEIGHBOUR: 'it returns false'. Refute it at one input. -/
def fnDiskSafeWrong : ChangeSpec := { name := "fnDiskSafe", fn := fun _ => fun
  | [d] => { results := [.lit (.bool false)], args := [d] }
  | _ => none }
def FnDiskSafeWrongFalsely : Prop := fnDiskSafeRow.holds Try.pinned (OpenSpec.ofChange fnDiskSafeWrong)

/-- 'laws.FnDiskFold': WHATEVER THE INPUT: true; the input reads as it did. -/
def fnDiskFoldSpec : ChangeSpec := { name := "fnDiskFold", fn := fun _ => fun
  | [d] => { results := [.lit (.bool true)], args := [d] }
  | _ => none }
def fnDiskFoldRow : OpenClaim := { program := "ytkamlibfcakblaa", sum := "d94a6a02e900bd25cab7540731b053c0862bc61d12a7df02ff25f051f84d84e6", func := "loop.example/janitor/laws.FnDiskFold", spec := "fnDiskFold", inPlace := ["internal/bytealg.abigen_runtime_cmpstring", "slices.overlaps[loop.example/janitor/impl.StoItem]"], unfollowed := true, recurses := true, apart := false }
def FnDiskFoldSaid : Prop := fnDiskFoldRow.holds Try.pinned (OpenSpec.ofChange fnDiskFoldSpec)

/-- ITS FALSE NEIGHBOUR: 'it returns false'. Refute it at one input. -/
def fnDiskFoldWrong : ChangeSpec := { name := "fnDiskFold", fn := fun _ => fun
  | [d] => { results := [.lit (.bool false)], args := [d] }
  | _ => none }
def FnDiskFoldWrongFalsely : Prop := fnDiskFoldRow.holds Try.pinned (OpenSpec.ofChange fnDiskFoldWrong)

/-- 'laws.FnDiskLess': WHATEVER THE INPUT: true; the input reads as it did. -/
def fnDiskLessSpec : ChangeSpec := { name := "fnDiskLess", fn := fun _ => fun
  | [d] => { results := [.lit (.bool true)], args := [d] }
  | _ => none }
def fnDiskLessRow : OpenClaim := { program := "ytkamlibfcakblaa", sum := "d94a6a02e900bd25cab7540731b053c0862bc61d12a7df02ff25f051f84d84e6", func := "loop.example/janitor/laws.FnDiskLess", spec := "fnDiskLess", inPlace := ["internal/bytealg.abigen_runtime_cmpstring", "slices.overlaps[loop.example/janitor/impl.StoItem]"], unfollowed := true, recurses := true, apart := false }
def FnDiskLessSaid : Prop := fnDiskLessRow.holds Try.pinned (OpenSpec.ofChange fnDiskLessSpec)

/-- ITS FALSE NEIGHBOUR: 'it returns false'. Refute it at one input. -/
def fnDiskLessWrong : ChangeSpec := { name := "fnDiskLess", fn := fun _ => fun
  | [d] => { results := [.lit (.bool false)], args := [d] }
  | _ => none }
def FnDiskLessWrongFalsely : Prop := fnDiskLessRow.holds Try.pinned (OpenSpec.ofChange fnDiskLessWrong)

/-- 'laws.FnExactDiskOpen': WHATEVER THE INPUT: true; the input reads as it did. -/
def fnExactDiskOpenSpec : ChangeSpec := { name := "fnExactDiskOpen", fn := fun _ => fun
  | [d] => { results := [.lit (.bool true)], args := [d] }
  | _ => none }
def fnExactDiskOpenRow : OpenClaim := { program := "ytkamlibfcakblaa", sum := "d94a6a02e900bd25cab7540731b053c0862bc61d12a7df02ff25f051f84d84e6", func := "loop.example/janitor/laws.FnExactDiskOpen", spec := "fnExactDiskOpen", unfollowed := true, recurses := true, apart := false }
def FnExactDiskOpenSaid : Prop := fnExactDiskOpenRow.holds Try.pinned (OpenSpec.ofChange fnExactDiskOpenSpec)

/-- ITS FALSE NEIGHBOUR: 'it returns false'. Refute it at one input. -/
def fnExactDiskOpenWrong : ChangeSpec := { name := "fnExactDiskOpen", fn := fun _ => fun
  | [d] => { results := [.lit (.bool false)], args := [d] }
  | _ => none }
def FnExactDiskOpenWrongFalsely : Prop := fnExactDiskOpenRow.holds Try.pinned (OpenSpec.ofChange fnExactDiskOpenWrong)

/-- 'laws.FnExactDiskLocks': WHATEVER THE INPUT: true; the input reads as it did. -/
def fnExactDiskLocksSpec : ChangeSpec := { name := "fnExactDiskLocks", fn := fun _ => fun
  | [d] => { results := [.lit (.bool true)], args := [d] }
  | _ => none }
def fnExactDiskLocksRow : OpenClaim := { program := "ytkamlibfcakblaa", sum := "d94a6a02e900bd25cab7540731b053c0862bc61d12a7df02ff25f051f84d84e6", func := "loop.example/janitor/laws.FnExactDiskLocks", spec := "fnExactDiskLocks", unfollowed := true, recurses := true, apart := false }
def FnExactDiskLocksSaid : Prop := fnExactDiskLocksRow.holds Try.pinned (OpenSpec.ofChange fnExactDiskLocksSpec)

/-- ITS FALSE NEIGHBOUR: 'it returns false'. Refute it at one input. -/
def fnExactDiskLocksWrong : ChangeSpec := { name := "fnExactDiskLocks", fn := fun _ => fun
  | [d] => { results := [.lit (.bool false)], args := [d] }
  | _ => none }
def FnExactDiskLocksWrongFalsely : Prop := fnExactDiskLocksRow.holds Try.pinned (OpenSpec.ofChange fnExactDiskLocksWrong)

/-- 'laws.FnExactDiskFold': WHATEVER THE INPUT: true; the input reads as it did. -/
def fnExactDiskFoldSpec : ChangeSpec := { name := "fnExactDiskFold", fn := fun _ => fun
  | [d] => { results := [.lit (.bool true)], args := [d] }
  | _ => none }
def fnExactDiskFoldRow : OpenClaim := { program := "ytkamlibfcakblaa", sum := "d94a6a02e900bd25cab7540731b053c0862bc61d12a7df02ff25f051f84d84e6", func := "loop.example/janitor/laws.FnExactDiskFold", spec := "fnExactDiskFold", inPlace := ["internal/bytealg.abigen_runtime_cmpstring", "slices.overlaps[loop.example/janitor/impl.StoItem]"], unfollowed := true, recurses := true, apart := false }
def FnExactDiskFoldSaid : Prop := fnExactDiskFoldRow.holds Try.pinned (OpenSpec.ofChange fnExactDiskFoldSpec)

/-- ITS FALSE NEIGHBOUR: 'it returns false'. Refute it at one input. -/
def fnExactDiskFoldWrong : ChangeSpec := { name := "fnExactDiskFold", fn := fun _ => fun
  | [d] => { results := [.lit (.bool false)], args := [d] }
  | _ => none }
def FnExactDiskFoldWrongFalsely : Prop := fnExactDiskFoldRow.holds Try.pinned (OpenSpec.ofChange fnExactDiskFoldWrong)

/-- 'laws.FnExactPlcTick': WHATEVER THE INPUT: true; the input reads as it did. -/
def fnExactPlcTickSpec : ChangeSpec := { name := "fnExactPlcTick", fn := fun _ => fun
  | [d1, d2] => { results := [.lit (.bool true)], args := [d1, d2] }
  | _ => none }
def fnExactPlcTickRow : OpenClaim := { program := "ytkamlibfcakblaa", sum := "d94a6a02e900bd25cab7540731b053c0862bc61d12a7df02ff25f051f84d84e6", func := "loop.example/janitor/laws.FnExactPlcTick", spec := "fnExactPlcTick", unfollowed := true, recurses := true, apart := false }
def FnExactPlcTickSaid : Prop := fnExactPlcTickRow.holds Try.pinned (OpenSpec.ofChange fnExactPlcTickSpec)

/-- ITS FALSE NEIGHBOUR: 'it returns false'. Refute it at one input. -/
def fnExactPlcTickWrong : ChangeSpec := { name := "fnExactPlcTick", fn := fun _ => fun
  | [d1, d2] => { results := [.lit (.bool false)], args := [d1, d2] }
  | _ => none }
def FnExactPlcTickWrongFalsely : Prop := fnExactPlcTickRow.holds Try.pinned (OpenSpec.ofChange fnExactPlcTickWrong)

/- THE SECOND FORM. 'bulk': how many values and letters a reading holds, each counted each time it is reached (what is shared counts as often as it is met; a slice's spare places count too). A statement '..UptoSaid' is the law's where the arguments, and the package variables that the reading takes, are together of bulk at most 1048576: NARROWER than '..Said'. Prove '..Said' where nothing that the law and all that it calls make is longer than what came in: it says more and counts as full. Else prove '..UptoSaid'. A law counts once. -/
mutual
def uptoBulk {H : Type} : DataW H → Nat
  | .lit (.string bytes) => bytes.length + 1
  | .lit _ => 1
  | .nil => 1
  | .ptr d => uptoBulk d + 1
  | .slice elems spare => uptoBulkAll elems + uptoBulkAll spare + 1
  | .agg parts => uptoBulkAll parts + 1
  | .iface _ d => uptoBulk d + 1
  | .map entries => uptoBulkEntries entries + 1
  | .held _ => 1
def uptoBulkAll {H : Type} : List (DataW H) → Nat
  | [] => 0
  | d :: r => uptoBulk d + uptoBulkAll r
def uptoBulkEntries {H : Type} : List (Lit × DataW H) → Nat
  | [] => 0
  | x :: r => uptoBulkEntry x + uptoBulkEntries r
def uptoBulkEntry {H : Type} : Lit × DataW H → Nat
  | (.string bytes, d) => bytes.length + uptoBulk d + 1
  | (_, d) => uptoBulk d + 1
 end
def uptoSmall : (H : Type) → List (DataW H) → Bool := fun _ ds => decide (uptoBulkAll ds ≤ 1048576)
def OpenSpec.upto (s : _root_.Go.ChangeSpec) : _root_.Go.OpenSpec := { _root_.Go.OpenSpec.ofChange s with cond := some uptoSmall }

/-- 'laws.FnDiskOf', WHERE WHAT IT READS IS OF BULK AT MOST 1048576: true; the input reads as it did. -/
def fnDiskOfUptoRow : OpenClaim := { program := "ytkamlibfcakblaa", sum := "d94a6a02e900bd25cab7540731b053c0862bc61d12a7df02ff25f051f84d84e6", func := "loop.example/janitor/laws.FnDiskOf", spec := "fnDiskOf", unfollowed := true, recurses := true, apart := false, narrowed := true }
def FnDiskOfUptoSaid : Prop := fnDiskOfUptoRow.holds Try.pinned (OpenSpec.upto fnDiskOfSpec)

/-- 'laws.FnDiskOpen', WHERE WHAT IT READS IS OF BULK AT MOST 1048576: true; the input reads as it did. -/
def fnDiskOpenUptoRow : OpenClaim := { program := "ytkamlibfcakblaa", sum := "d94a6a02e900bd25cab7540731b053c0862bc61d12a7df02ff25f051f84d84e6", func := "loop.example/janitor/laws.FnDiskOpen", spec := "fnDiskOpen", unfollowed := true, recurses := true, apart := false, narrowed := true }
def FnDiskOpenUptoSaid : Prop := fnDiskOpenUptoRow.holds Try.pinned (OpenSpec.upto fnDiskOpenSpec)

/-- 'laws.FnDiskSafe', WHERE WHAT IT READS IS OF BULK AT MOST 1048576: true; the input reads as it did. -/
def fnDiskSafeUptoRow : OpenClaim := { program := "ytkamlibfcakblaa", sum := "d94a6a02e900bd25cab7540731b053c0862bc61d12a7df02ff25f051f84d84e6", func := "loop.example/janitor/laws.FnDiskSafe", spec := "fnDiskSafe", unfollowed := true, recurses := true, apart := false, narrowed := true }
def FnDiskSafeUptoSaid : Prop := fnDiskSafeUptoRow.holds Try.pinned (OpenSpec.upto fnDiskSafeSpec)

/-- 'laws.FnDiskFold', WHERE WHAT IT READS IS OF BULK AT MOST 1048576: true; the input reads as it did. -/
def fnDiskFoldUptoRow : OpenClaim := { program := "ytkamlibfcakblaa", sum := "d94a6a02e900bd25cab7540731b053c0862bc61d12a7df02ff25f051f84d84e6", func := "loop.example/janitor/laws.FnDiskFold", spec := "fnDiskFold", inPlace := ["internal/bytealg.abigen_runtime_cmpstring", "slices.overlaps[loop.example/janitor/impl.StoItem]"], unfollowed := true, recurses := true, apart := false, narrowed := true }
def FnDiskFoldUptoSaid : Prop := fnDiskFoldUptoRow.holds Try.pinned (OpenSpec.upto fnDiskFoldSpec)

/-- 'laws.FnDiskLess', WHERE WHAT IT READS IS OF BULK AT MOST 1048576: true; the input reads as it did. -/
def fnDiskLessUptoRow : OpenClaim := { program := "ytkamlibfcakblaa", sum := "d94a6a02e900bd25cab7540731b053c0862bc61d12a7df02ff25f051f84d84e6", func := "loop.example/janitor/laws.FnDiskLess", spec := "fnDiskLess", inPlace := ["internal/bytealg.abigen_runtime_cmpstring", "slices.overlaps[loop.example/janitor/impl.StoItem]"], unfollowed := true, recurses := true, apart := false, narrowed := true }
def FnDiskLessUptoSaid : Prop := fnDiskLessUptoRow.holds Try.pinned (OpenSpec.upto fnDiskLessSpec)

/-- 'laws.FnExactDiskOpen', WHERE WHAT IT READS IS OF BULK AT MOST 1048576: true; the input reads as it did. -/
def fnExactDiskOpenUptoRow : OpenClaim := { program := "ytkamlibfcakblaa", sum := "d94a6a02e900bd25cab7540731b053c0862bc61d12a7df02ff25f051f84d84e6", func := "loop.example/janitor/laws.FnExactDiskOpen", spec := "fnExactDiskOpen", unfollowed := true, recurses := true, apart := false, narrowed := true }
def FnExactDiskOpenUptoSaid : Prop := fnExactDiskOpenUptoRow.holds Try.pinned (OpenSpec.upto fnExactDiskOpenSpec)

/-- 'laws.FnExactDiskLocks', WHERE WHAT IT READS IS OF BULK AT MOST 1048576: true; the input reads as it did. -/
def fnExactDiskLocksUptoRow : OpenClaim := { program := "ytkamlibfcakblaa", sum := "d94a6a02e900bd25cab7540731b053c0862bc61d12a7df02ff25f051f84d84e6", func := "loop.example/janitor/laws.FnExactDiskLocks", spec := "fnExactDiskLocks", unfollowed := true, recurses := true, apart := false, narrowed := true }
def FnExactDiskLocksUptoSaid : Prop := fnExactDiskLocksUptoRow.holds Try.pinned (OpenSpec.upto fnExactDiskLocksSpec)

/-- 'laws.FnExactDiskFold', WHERE WHAT IT READS IS OF BULK AT MOST 1048576: true; the input reads as it did. -/
def fnExactDiskFoldUptoRow : OpenClaim := { program := "ytkamlibfcakblaa", sum := "d94a6a02e900bd25cab7540731b053c0862bc61d12a7df02ff25f051f84d84e6", func := "loop.example/janitor/laws.FnExactDiskFold", spec := "fnExactDiskFold", inPlace := ["internal/bytealg.abigen_runtime_cmpstring", "slices.overlaps[loop.example/janitor/impl.StoItem]"], unfollowed := true, recurses := true, apart := false, narrowed := true }
def FnExactDiskFoldUptoSaid : Prop := fnExactDiskFoldUptoRow.holds Try.pinned (OpenSpec.upto fnExactDiskFoldSpec)

/-- 'laws.FnExactPlcTick', WHERE WHAT IT READS IS OF BULK AT MOST 1048576: true; the input reads as it did. -/
def fnExactPlcTickUptoRow : OpenClaim := { program := "ytkamlibfcakblaa", sum := "d94a6a02e900bd25cab7540731b053c0862bc61d12a7df02ff25f051f84d84e6", func := "loop.example/janitor/laws.FnExactPlcTick", spec := "fnExactPlcTick", unfollowed := true, recurses := true, apart := false, narrowed := true }
def FnExactPlcTickUptoSaid : Prop := fnExactPlcTickUptoRow.holds Try.pinned (OpenSpec.upto fnExactPlcTickSpec)

end Rows
end Go.Proofs.Ytkamlibfcakblaa
