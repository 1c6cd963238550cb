/-
  No cell of these rows narrows 'for every input' (looked for: loops, veiled, ifaces, maps, wideKeys, modest, calm, conditions, laid).
  DERIVED. THE GIVEN ROWS OF THIS SEAT. 9 by the template 'for every input the law returns true; each argument reads behind the call as it read before'; 0 by the template 'total and deterministic' (their statements: YtmkombbjjmmgjaaTotals.lean).
  GIVEN WITH THE SEED: the statements are not yours to turn. If you find one false, say at which input.
  Laid BY PROGRAM, IN A SANDBOX (cutbox-rows.mjs): the forced cells as the released guide's own fill.sh prints them over the translation dd1c9ce5aca03ce4… (all of the seat's roots in one cut). By AI agents, Wed Nov 11 2026. No macro, syntax, notation, axiom, sorry.
-/
import Derived.Test.YtmkombbjjmmgjaaChecked
import GoSem.Claim
import GoSem.ClaimJoined
import GoSem.ClaimMapViews
import Derived.JoinedTies
import Derived.KernelRfl
namespace Go.Proofs.Ytmkombbjjmmgjaa
/- THE CELL 'sum', in the pinned program and in every row, IS THE sha256 OF THE DUMP (.gsa) THAT YtmkombbjjmmgjaaProg.lean LOADS. Nothing in Lean hashes anything: it is a label: what it is worth is what the hold of that sum in a sandbox is worth. -/
noncomputable def Try.pinned : Pinned := { name := "ytmkombbjjmmgjaa", sum := "dd1c9ce5aca03ce4ab93472ef08428e92e573aa81199a5b0f464dc75423ff1e1", checked := Try.checked }
namespace Rows
def none {H : Type} : Left H := { results := [], args := [] }

/-- 'laws.FnExactSecSum': WHATEVER THE INPUT: true; the input reads as it did. -/
def fnExactSecSumSpec : ChangeSpec := { name := "fnExactSecSum", fn := fun _ => fun
  | [d] => { results := [.lit (.bool true)], args := [d] }
  | _ => none }
def fnExactSecSumRow : OpenClaim := { program := "ytmkombbjjmmgjaa", sum := "dd1c9ce5aca03ce4ab93472ef08428e92e573aa81199a5b0f464dc75423ff1e1", func := "loop.example/janitor/laws.FnExactSecSum", spec := "fnExactSecSum", apart := false }
def FnExactSecSumSaid : Prop := fnExactSecSumRow.holds Try.pinned (OpenSpec.ofChange fnExactSecSumSpec)

/-- ITS FALSE NEIGHBOUR: 'it returns false'. Refute it at one input. -/
def fnExactSecSumWrong : ChangeSpec := { name := "fnExactSecSum", fn := fun _ => fun
  | [d] => { results := [.lit (.bool false)], args := [d] }
  | _ => none }
def FnExactSecSumWrongFalsely : Prop := fnExactSecSumRow.holds Try.pinned (OpenSpec.ofChange fnExactSecSumWrong)

/-- 'laws.FnExactOpOk': WHATEVER THE INPUT: true; the input reads as it did. -/
def fnExactOpOkSpec : ChangeSpec := { name := "fnExactOpOk", fn := fun _ => fun
  | [d] => { results := [.lit (.bool true)], args := [d] }
  | _ => none }
def fnExactOpOkRow : OpenClaim := { program := "ytmkombbjjmmgjaa", sum := "dd1c9ce5aca03ce4ab93472ef08428e92e573aa81199a5b0f464dc75423ff1e1", func := "loop.example/janitor/laws.FnExactOpOk", spec := "fnExactOpOk", apart := false }
def FnExactOpOkSaid : Prop := fnExactOpOkRow.holds Try.pinned (OpenSpec.ofChange fnExactOpOkSpec)

/-- ITS FALSE NEIGHBOUR: 'it returns false'. Refute it at one input. -/
def fnExactOpOkWrong : ChangeSpec := { name := "fnExactOpOk", fn := fun _ => fun
  | [d] => { results := [.lit (.bool false)], args := [d] }
  | _ => none }
def FnExactOpOkWrongFalsely : Prop := fnExactOpOkRow.holds Try.pinned (OpenSpec.ofChange fnExactOpOkWrong)

/-- 'laws.FnExactOpPlaces': WHATEVER THE INPUT: true; the input reads as it did. -/
def fnExactOpPlacesSpec : ChangeSpec := { name := "fnExactOpPlaces", fn := fun _ => fun
  | [d] => { results := [.lit (.bool true)], args := [d] }
  | _ => none }
def fnExactOpPlacesRow : OpenClaim := { program := "ytmkombbjjmmgjaa", sum := "dd1c9ce5aca03ce4ab93472ef08428e92e573aa81199a5b0f464dc75423ff1e1", func := "loop.example/janitor/laws.FnExactOpPlaces", spec := "fnExactOpPlaces", unfollowed := true, recurses := true, apart := false }
def FnExactOpPlacesSaid : Prop := fnExactOpPlacesRow.holds Try.pinned (OpenSpec.ofChange fnExactOpPlacesSpec)

/-- ITS FALSE NEIGHBOUR: 'it returns false'. Refute it at one input. -/
def fnExactOpPlacesWrong : ChangeSpec := { name := "fnExactOpPlaces", fn := fun _ => fun
  | [d] => { results := [.lit (.bool false)], args := [d] }
  | _ => none }
def FnExactOpPlacesWrongFalsely : Prop := fnExactOpPlacesRow.holds Try.pinned (OpenSpec.ofChange fnExactOpPlacesWrong)

/-- 'laws.FnExactPlcOk': WHATEVER THE INPUT: true; the input reads as it did. -/
def fnExactPlcOkSpec : ChangeSpec := { name := "fnExactPlcOk", fn := fun _ => fun
  | [d1, d2] => { results := [.lit (.bool true)], args := [d1, d2] }
  | _ => none }
def fnExactPlcOkRow : OpenClaim := { program := "ytmkombbjjmmgjaa", sum := "dd1c9ce5aca03ce4ab93472ef08428e92e573aa81199a5b0f464dc75423ff1e1", func := "loop.example/janitor/laws.FnExactPlcOk", spec := "fnExactPlcOk", unfollowed := true, recurses := true, apart := false }
def FnExactPlcOkSaid : Prop := fnExactPlcOkRow.holds Try.pinned (OpenSpec.ofChange fnExactPlcOkSpec)

/-- ITS FALSE NEIGHBOUR: 'it returns false'. Refute it at one input. -/
def fnExactPlcOkWrong : ChangeSpec := { name := "fnExactPlcOk", fn := fun _ => fun
  | [d1, d2] => { results := [.lit (.bool false)], args := [d1, d2] }
  | _ => none }
def FnExactPlcOkWrongFalsely : Prop := fnExactPlcOkRow.holds Try.pinned (OpenSpec.ofChange fnExactPlcOkWrong)

/-- 'laws.FnSecSum': WHATEVER THE INPUT: true; the input reads as it did. -/
def fnSecSumSpec : ChangeSpec := { name := "fnSecSum", fn := fun _ => fun
  | [d1, d2] => { results := [.lit (.bool true)], args := [d1, d2] }
  | _ => none }
def fnSecSumRow : OpenClaim := { program := "ytmkombbjjmmgjaa", sum := "dd1c9ce5aca03ce4ab93472ef08428e92e573aa81199a5b0f464dc75423ff1e1", func := "loop.example/janitor/laws.FnSecSum", spec := "fnSecSum", apart := false }
def FnSecSumSaid : Prop := fnSecSumRow.holds Try.pinned (OpenSpec.ofChange fnSecSumSpec)

/-- ITS FALSE NEIGHBOUR: 'it returns false'. Refute it at one input. -/
def fnSecSumWrong : ChangeSpec := { name := "fnSecSum", fn := fun _ => fun
  | [d1, d2] => { results := [.lit (.bool false)], args := [d1, d2] }
  | _ => none }
def FnSecSumWrongFalsely : Prop := fnSecSumRow.holds Try.pinned (OpenSpec.ofChange fnSecSumWrong)

/-- 'laws.FnOpOk': WHATEVER THE INPUT: true; the input reads as it did. -/
def fnOpOkSpec : ChangeSpec := { name := "fnOpOk", fn := fun _ => fun
  | [d] => { results := [.lit (.bool true)], args := [d] }
  | _ => none }
def fnOpOkRow : OpenClaim := { program := "ytmkombbjjmmgjaa", sum := "dd1c9ce5aca03ce4ab93472ef08428e92e573aa81199a5b0f464dc75423ff1e1", func := "loop.example/janitor/laws.FnOpOk", spec := "fnOpOk", apart := false }
def FnOpOkSaid : Prop := fnOpOkRow.holds Try.pinned (OpenSpec.ofChange fnOpOkSpec)

/-- ITS FALSE NEIGHBOUR: 'it returns false'. Refute it at one input. -/
def fnOpOkWrong : ChangeSpec := { name := "fnOpOk", fn := fun _ => fun
  | [d] => { results := [.lit (.bool false)], args := [d] }
  | _ => none }
def FnOpOkWrongFalsely : Prop := fnOpOkRow.holds Try.pinned (OpenSpec.ofChange fnOpOkWrong)

/-- 'laws.FnOpPlaces': WHATEVER THE INPUT: true; the input reads as it did. -/
def fnOpPlacesSpec : ChangeSpec := { name := "fnOpPlaces", fn := fun _ => fun
  | [d] => { results := [.lit (.bool true)], args := [d] }
  | _ => none }
def fnOpPlacesRow : OpenClaim := { program := "ytmkombbjjmmgjaa", sum := "dd1c9ce5aca03ce4ab93472ef08428e92e573aa81199a5b0f464dc75423ff1e1", func := "loop.example/janitor/laws.FnOpPlaces", spec := "fnOpPlaces", unfollowed := true, recurses := true, apart := false }
def FnOpPlacesSaid : Prop := fnOpPlacesRow.holds Try.pinned (OpenSpec.ofChange fnOpPlacesSpec)

/-- ITS FALSE NEIGHBOUR: 'it returns false'. Refute it at one input. -/
def fnOpPlacesWrong : ChangeSpec := { name := "fnOpPlaces", fn := fun _ => fun
  | [d] => { results := [.lit (.bool false)], args := [d] }
  | _ => none }
def FnOpPlacesWrongFalsely : Prop := fnOpPlacesRow.holds Try.pinned (OpenSpec.ofChange fnOpPlacesWrong)

/-- 'laws.FnPlcOk': WHATEVER THE INPUT: true; the input reads as it did. -/
def fnPlcOkSpec : ChangeSpec := { name := "fnPlcOk", fn := fun _ => fun
  | [d] => { results := [.lit (.bool true)], args := [d] }
  | _ => none }
def fnPlcOkRow : OpenClaim := { program := "ytmkombbjjmmgjaa", sum := "dd1c9ce5aca03ce4ab93472ef08428e92e573aa81199a5b0f464dc75423ff1e1", func := "loop.example/janitor/laws.FnPlcOk", spec := "fnPlcOk", unfollowed := true, recurses := true, apart := false }
def FnPlcOkSaid : Prop := fnPlcOkRow.holds Try.pinned (OpenSpec.ofChange fnPlcOkSpec)

/-- ITS FALSE NEIGHBOUR: 'it returns false'. Refute it at one input. -/
def fnPlcOkWrong : ChangeSpec := { name := "fnPlcOk", fn := fun _ => fun
  | [d] => { results := [.lit (.bool false)], args := [d] }
  | _ => none }
def FnPlcOkWrongFalsely : Prop := fnPlcOkRow.holds Try.pinned (OpenSpec.ofChange fnPlcOkWrong)

/-- 'laws.FnPlanTx': WHATEVER THE INPUT: true; the input reads as it did. -/
def fnPlanTxSpec : ChangeSpec := { name := "fnPlanTx", fn := fun _ => fun
  | [d] => { results := [.lit (.bool true)], args := [d] }
  | _ => none }
def fnPlanTxRow : OpenClaim := { program := "ytmkombbjjmmgjaa", sum := "dd1c9ce5aca03ce4ab93472ef08428e92e573aa81199a5b0f464dc75423ff1e1", func := "loop.example/janitor/laws.FnPlanTx", spec := "fnPlanTx", unfollowed := true, recurses := true, apart := false }
def FnPlanTxSaid : Prop := fnPlanTxRow.holds Try.pinned (OpenSpec.ofChange fnPlanTxSpec)

/-- ITS FALSE NEIGHBOUR: 'it returns false'. Refute it at one input. -/
def fnPlanTxWrong : ChangeSpec := { name := "fnPlanTx", fn := fun _ => fun
  | [d] => { results := [.lit (.bool false)], args := [d] }
  | _ => none }
def FnPlanTxWrongFalsely : Prop := fnPlanTxRow.holds Try.pinned (OpenSpec.ofChange fnPlanTxWrong)

/- THE SECOND FORM. 'bulk': how many values and letters a reading holds, each counted each time it is reached (what is shared counts as often as it is met; a slice's spare places count too). A statement '..UptoSaid' is the law's where the arguments, and the package variables that the reading takes, are together of bulk at most 1048576: NARROWER than '..Said'. Prove '..Said' where nothing that the law and all that it calls make is longer than what came in: it says more and counts as full. Else prove '..UptoSaid'. A law counts once. -/
mutual
def uptoBulk {H : Type} : DataW H → Nat
  | .lit (.string bytes) => bytes.length + 1
  | .lit _ => 1
  | .nil => 1
  | .ptr d => uptoBulk d + 1
  | .slice elems spare => uptoBulkAll elems + uptoBulkAll spare + 1
  | .agg parts => uptoBulkAll parts + 1
  | .iface _ d => uptoBulk d + 1
  | .map entries => uptoBulkEntries entries + 1
  | .held _ => 1
def uptoBulkAll {H : Type} : List (DataW H) → Nat
  | [] => 0
  | d :: r => uptoBulk d + uptoBulkAll r
def uptoBulkEntries {H : Type} : List (Lit × DataW H) → Nat
  | [] => 0
  | x :: r => uptoBulkEntry x + uptoBulkEntries r
def uptoBulkEntry {H : Type} : Lit × DataW H → Nat
  | (.string bytes, d) => bytes.length + uptoBulk d + 1
  | (_, d) => uptoBulk d + 1
 end
def uptoSmall : (H : Type) → List (DataW H) → Bool := fun _ ds => decide (uptoBulkAll ds ≤ 1048576)
def OpenSpec.upto (s : _root_.Go.ChangeSpec) : _root_.Go.OpenSpec := { _root_.Go.OpenSpec.ofChange s with cond := some uptoSmall }

/-- 'laws.FnExactSecSum', WHERE WHAT IT READS IS OF BULK AT MOST 1048576: true; the input reads as it did. -/
def fnExactSecSumUptoRow : OpenClaim := { program := "ytmkombbjjmmgjaa", sum := "dd1c9ce5aca03ce4ab93472ef08428e92e573aa81199a5b0f464dc75423ff1e1", func := "loop.example/janitor/laws.FnExactSecSum", spec := "fnExactSecSum", apart := false, narrowed := true }
def FnExactSecSumUptoSaid : Prop := fnExactSecSumUptoRow.holds Try.pinned (OpenSpec.upto fnExactSecSumSpec)

/-- 'laws.FnExactOpOk', WHERE WHAT IT READS IS OF BULK AT MOST 1048576: true; the input reads as it did. -/
def fnExactOpOkUptoRow : OpenClaim := { program := "ytmkombbjjmmgjaa", sum := "dd1c9ce5aca03ce4ab93472ef08428e92e573aa81199a5b0f464dc75423ff1e1", func := "loop.example/janitor/laws.FnExactOpOk", spec := "fnExactOpOk", apart := false, narrowed := true }
def FnExactOpOkUptoSaid : Prop := fnExactOpOkUptoRow.holds Try.pinned (OpenSpec.upto fnExactOpOkSpec)

/-- 'laws.FnExactOpPlaces', WHERE WHAT IT READS IS OF BULK AT MOST 1048576: true; the input reads as it did. -/
def fnExactOpPlacesUptoRow : OpenClaim := { program := "ytmkombbjjmmgjaa", sum := "dd1c9ce5aca03ce4ab93472ef08428e92e573aa81199a5b0f464dc75423ff1e1", func := "loop.example/janitor/laws.FnExactOpPlaces", spec := "fnExactOpPlaces", unfollowed := true, recurses := true, apart := false, narrowed := true }
def FnExactOpPlacesUptoSaid : Prop := fnExactOpPlacesUptoRow.holds Try.pinned (OpenSpec.upto fnExactOpPlacesSpec)

/-- 'laws.FnExactPlcOk', WHERE WHAT IT READS IS OF BULK AT MOST 1048576: true; the input reads as it did. -/
def fnExactPlcOkUptoRow : OpenClaim := { program := "ytmkombbjjmmgjaa", sum := "dd1c9ce5aca03ce4ab93472ef08428e92e573aa81199a5b0f464dc75423ff1e1", func := "loop.example/janitor/laws.FnExactPlcOk", spec := "fnExactPlcOk", unfollowed := true, recurses := true, apart := false, narrowed := true }
def FnExactPlcOkUptoSaid : Prop := fnExactPlcOkUptoRow.holds Try.pinned (OpenSpec.upto fnExactPlcOkSpec)

/-- 'laws.FnSecSum', WHERE WHAT IT READS IS OF BULK AT MOST 1048576: true; the input reads as it did. -/
def fnSecSumUptoRow : OpenClaim := { program := "ytmkombbjjmmgjaa", sum := "dd1c9ce5aca03ce4ab93472ef08428e92e573aa81199a5b0f464dc75423ff1e1", func := "loop.example/janitor/laws.FnSecSum", spec := "fnSecSum", apart := false, narrowed := true }
def FnSecSumUptoSaid : Prop := fnSecSumUptoRow.holds Try.pinned (OpenSpec.upto fnSecSumSpec)

/-- 'laws.FnOpOk', WHERE WHAT IT READS IS OF BULK AT MOST 1048576: true; the input reads as it did. -/
def fnOpOkUptoRow : OpenClaim := { program := "ytmkombbjjmmgjaa", sum := "dd1c9ce5aca03ce4ab93472ef08428e92e573aa81199a5b0f464dc75423ff1e1", func := "loop.example/janitor/laws.FnOpOk", spec := "fnOpOk", apart := false, narrowed := true }
def FnOpOkUptoSaid : Prop := fnOpOkUptoRow.holds Try.pinned (OpenSpec.upto fnOpOkSpec)

/-- 'laws.FnOpPlaces', WHERE WHAT IT READS IS OF BULK AT MOST 1048576: true; the input reads as it did. -/
def fnOpPlacesUptoRow : OpenClaim := { program := "ytmkombbjjmmgjaa", sum := "dd1c9ce5aca03ce4ab93472ef08428e92e573aa81199a5b0f464dc75423ff1e1", func := "loop.example/janitor/laws.FnOpPlaces", spec := "fnOpPlaces", unfollowed := true, recurses := true, apart := false, narrowed := true }
def FnOpPlacesUptoSaid : Prop := fnOpPlacesUptoRow.holds Try.pinned (OpenSpec.upto fnOpPlacesSpec)

/-- 'laws.FnPlcOk', WHERE WHAT IT READS IS OF BULK AT MOST 1048576: true; the input reads as it did. -/
def fnPlcOkUptoRow : OpenClaim := { program := "ytmkombbjjmmgjaa", sum := "dd1c9ce5aca03ce4ab93472ef08428e92e573aa81199a5b0f464dc75423ff1e1", func := "loop.example/janitor/laws.FnPlcOk", spec := "fnPlcOk", unfollowed := true, recurses := true, apart := false, narrowed := true }
def FnPlcOkUptoSaid : Prop := fnPlcOkUptoRow.holds Try.pinned (OpenSpec.upto fnPlcOkSpec)

/-- 'laws.FnPlanTx', WHERE WHAT IT READS IS OF BULK AT MOST 1048576: true; the input reads as it did. -/
def fnPlanTxUptoRow : OpenClaim := { program := "ytmkombbjjmmgjaa", sum := "dd1c9ce5aca03ce4ab93472ef08428e92e573aa81199a5b0f464dc75423ff1e1", func := "loop.example/janitor/laws.FnPlanTx", spec := "fnPlanTx", unfollowed := true, recurses := true, apart := false, narrowed := true }
def FnPlanTxUptoSaid : Prop := fnPlanTxUptoRow.holds Try.pinned (OpenSpec.upto fnPlanTxSpec)

end Rows
end Go.Proofs.Ytmkombbjjmmgjaa
