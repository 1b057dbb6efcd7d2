/-
  No cell of these rows narrows 'for every input' (looked for: loops, veiled, ifaces, maps, wideKeys, modest, calm, conditions, laid).
  DERIVED. THE GIVEN ROWS OF THIS SEAT. 5 by the template 'for every input the law returns true; each argument reads behind the call as it read before'; 0 by the template 'total and deterministic' (their statements: YtnkigfopejbcpaaTotals.lean).
  GIVEN WITH THE SEED: the statements are not yours to turn. If you find one false, say at which input.
  Laid BY PROGRAM, IN A SANDBOX (cutbox-rows.mjs): the forced cells as the released guide's own fill.sh prints them over the translation 8bd29a4dbba18902… (all of the seat's roots in one cut). By AI agents, Wed Nov 11 2026. No macro, syntax, notation, axiom, sorry.
-/
import Derived.Test.YtnkigfopejbcpaaChecked
import GoSem.Claim
import GoSem.ClaimJoined
import GoSem.ClaimMapViews
import Derived.JoinedTies
import Derived.KernelRfl
namespace Go.Proofs.Ytnkigfopejbcpaa
/- THE CELL 'sum', in the pinned program and in every row, IS THE sha256 OF THE DUMP (.gsa) THAT YtnkigfopejbcpaaProg.lean LOADS. Nothing in Lean hashes anything: it is a label: what it is worth is what the hold of that sum in a sandbox is worth. -/
noncomputable def Try.pinned : Pinned := { name := "ytnkigfopejbcpaa", sum := "8bd29a4dbba18902cdfb8f1e5323cf0447bef2dff5c353af622498ea5a064085", checked := Try.checked }
namespace Rows
def none {H : Type} : Left H := { results := [], args := [] }

/-- 'laws.FnExactIsSeason': WHATEVER THE INPUT: true; the input reads as it did. -/
def fnExactIsSeasonSpec : ChangeSpec := { name := "fnExactIsSeason", fn := fun _ => fun
  | [d] => { results := [.lit (.bool true)], args := [d] }
  | _ => none }
def fnExactIsSeasonRow : OpenClaim := { program := "ytnkigfopejbcpaa", sum := "8bd29a4dbba18902cdfb8f1e5323cf0447bef2dff5c353af622498ea5a064085", func := "loop.example/g01110/laws.FnExactIsSeason", spec := "fnExactIsSeason", unfollowed := true, recurses := true, apart := false }
def FnExactIsSeasonSaid : Prop := fnExactIsSeasonRow.holds Try.pinned (OpenSpec.ofChange fnExactIsSeasonSpec)

/-- ITS FALSE NEIGHBOUR: 'it returns false'. Refute it at one input. -/
def fnExactIsSeasonWrong : ChangeSpec := { name := "fnExactIsSeason", fn := fun _ => fun
  | [d] => { results := [.lit (.bool false)], args := [d] }
  | _ => none }
def FnExactIsSeasonWrongFalsely : Prop := fnExactIsSeasonRow.holds Try.pinned (OpenSpec.ofChange fnExactIsSeasonWrong)

/-- 'laws.FnExactIsPlan': WHATEVER THE INPUT: true; the input reads as it did. -/
def fnExactIsPlanSpec : ChangeSpec := { name := "fnExactIsPlan", fn := fun _ => fun
  | [d1, d2] => { results := [.lit (.bool true)], args := [d1, d2] }
  | _ => none }
def fnExactIsPlanRow : OpenClaim := { program := "ytnkigfopejbcpaa", sum := "8bd29a4dbba18902cdfb8f1e5323cf0447bef2dff5c353af622498ea5a064085", func := "loop.example/g01110/laws.FnExactIsPlan", spec := "fnExactIsPlan", unfollowed := true, recurses := true, apart := false }
def FnExactIsPlanSaid : Prop := fnExactIsPlanRow.holds Try.pinned (OpenSpec.ofChange fnExactIsPlanSpec)

/-- ITS FALSE NEIGHBOUR: 'it returns false'. Refute it at one input. -/
def fnExactIsPlanWrong : ChangeSpec := { name := "fnExactIsPlan", fn := fun _ => fun
  | [d1, d2] => { results := [.lit (.bool false)], args := [d1, d2] }
  | _ => none }
def FnExactIsPlanWrongFalsely : Prop := fnExactIsPlanRow.holds Try.pinned (OpenSpec.ofChange fnExactIsPlanWrong)

/-- 'laws.FnExactMoveCost': WHATEVER THE INPUT: true; the input reads as it did. -/
def fnExactMoveCostSpec : ChangeSpec := { name := "fnExactMoveCost", fn := fun _ => fun
  | [d1, d2, d3, d4] => { results := [.lit (.bool true)], args := [d1, d2, d3, d4] }
  | _ => none }
def fnExactMoveCostRow : OpenClaim := { program := "ytnkigfopejbcpaa", sum := "8bd29a4dbba18902cdfb8f1e5323cf0447bef2dff5c353af622498ea5a064085", func := "loop.example/g01110/laws.FnExactMoveCost", spec := "fnExactMoveCost", unfollowed := true, recurses := true, apart := false }
def FnExactMoveCostSaid : Prop := fnExactMoveCostRow.holds Try.pinned (OpenSpec.ofChange fnExactMoveCostSpec)

/-- ITS FALSE NEIGHBOUR: 'it returns false'. Refute it at one input. -/
def fnExactMoveCostWrong : ChangeSpec := { name := "fnExactMoveCost", fn := fun _ => fun
  | [d1, d2, d3, d4] => { results := [.lit (.bool false)], args := [d1, d2, d3, d4] }
  | _ => none }
def FnExactMoveCostWrongFalsely : Prop := fnExactMoveCostRow.holds Try.pinned (OpenSpec.ofChange fnExactMoveCostWrong)

/-- 'laws.FnExactPlanCost': WHATEVER THE INPUT: true; the input reads as it did. -/
def fnExactPlanCostSpec : ChangeSpec := { name := "fnExactPlanCost", fn := fun _ => fun
  | [d1, d2] => { results := [.lit (.bool true)], args := [d1, d2] }
  | _ => none }
def fnExactPlanCostRow : OpenClaim := { program := "ytnkigfopejbcpaa", sum := "8bd29a4dbba18902cdfb8f1e5323cf0447bef2dff5c353af622498ea5a064085", func := "loop.example/g01110/laws.FnExactPlanCost", spec := "fnExactPlanCost", unfollowed := true, recurses := true, apart := false }
def FnExactPlanCostSaid : Prop := fnExactPlanCostRow.holds Try.pinned (OpenSpec.ofChange fnExactPlanCostSpec)

/-- ITS FALSE NEIGHBOUR: 'it returns false'. Refute it at one input. -/
def fnExactPlanCostWrong : ChangeSpec := { name := "fnExactPlanCost", fn := fun _ => fun
  | [d1, d2] => { results := [.lit (.bool false)], args := [d1, d2] }
  | _ => none }
def FnExactPlanCostWrongFalsely : Prop := fnExactPlanCostRow.holds Try.pinned (OpenSpec.ofChange fnExactPlanCostWrong)

/-- 'laws.FnExactPlanMoves': WHATEVER THE INPUT: true; the input reads as it did. -/
def fnExactPlanMovesSpec : ChangeSpec := { name := "fnExactPlanMoves", fn := fun _ => fun
  | [d1, d2] => { results := [.lit (.bool true)], args := [d1, d2] }
  | _ => none }
def fnExactPlanMovesRow : OpenClaim := { program := "ytnkigfopejbcpaa", sum := "8bd29a4dbba18902cdfb8f1e5323cf0447bef2dff5c353af622498ea5a064085", func := "loop.example/g01110/laws.FnExactPlanMoves", spec := "fnExactPlanMoves", unfollowed := true, recurses := true, apart := false }
def FnExactPlanMovesSaid : Prop := fnExactPlanMovesRow.holds Try.pinned (OpenSpec.ofChange fnExactPlanMovesSpec)

/-- ITS FALSE NEIGHBOUR: 'it returns false'. Refute it at one input. -/
def fnExactPlanMovesWrong : ChangeSpec := { name := "fnExactPlanMoves", fn := fun _ => fun
  | [d1, d2] => { results := [.lit (.bool false)], args := [d1, d2] }
  | _ => none }
def FnExactPlanMovesWrongFalsely : Prop := fnExactPlanMovesRow.holds Try.pinned (OpenSpec.ofChange fnExactPlanMovesWrong)

/- THE SECOND FORM. 'bulk': how many values and letters a reading holds, each counted each time it is reached (what is shared counts as often as it is met; a slice's spare places count too). A statement '..UptoSaid' is the law's where the arguments, and the package variables that the reading takes, are together of bulk at most 1048576: NARROWER than '..Said'. Prove '..Said' where nothing that the law and all that it calls make is longer than what came in: it says more and counts as full. Else prove '..UptoSaid'. A law counts once. -/
mutual
def uptoBulk {H : Type} : DataW H → Nat
  | .lit (.string bytes) => bytes.length + 1
  | .lit _ => 1
  | .nil => 1
  | .ptr d => uptoBulk d + 1
  | .slice elems spare => uptoBulkAll elems + uptoBulkAll spare + 1
  | .agg parts => uptoBulkAll parts + 1
  | .iface _ d => uptoBulk d + 1
  | .map entries => uptoBulkEntries entries + 1
  | .held _ => 1
def uptoBulkAll {H : Type} : List (DataW H) → Nat
  | [] => 0
  | d :: r => uptoBulk d + uptoBulkAll r
def uptoBulkEntries {H : Type} : List (Lit × DataW H) → Nat
  | [] => 0
  | x :: r => uptoBulkEntry x + uptoBulkEntries r
def uptoBulkEntry {H : Type} : Lit × DataW H → Nat
  | (.string bytes, d) => bytes.length + uptoBulk d + 1
  | (_, d) => uptoBulk d + 1
 end
def uptoSmall : (H : Type) → List (DataW H) → Bool := fun _ ds => decide (uptoBulkAll ds ≤ 1048576)
def OpenSpec.upto (s : _root_.Go.ChangeSpec) : _root_.Go.OpenSpec := { _root_.Go.OpenSpec.ofChange s with cond := some uptoSmall }

/-- 'laws.FnExactIsSeason', WHERE WHAT IT READS IS OF BULK AT MOST 1048576: true; the input reads as it did. -/
def fnExactIsSeasonUptoRow : OpenClaim := { program := "ytnkigfopejbcpaa", sum := "8bd29a4dbba18902cdfb8f1e5323cf0447bef2dff5c353af622498ea5a064085", func := "loop.example/g01110/laws.FnExactIsSeason", spec := "fnExactIsSeason", unfollowed := true, recurses := true, apart := false, narrowed := true }
def FnExactIsSeasonUptoSaid : Prop := fnExactIsSeasonUptoRow.holds Try.pinned (OpenSpec.upto fnExactIsSeasonSpec)

/-- 'laws.FnExactIsPlan', WHERE WHAT IT READS IS OF BULK AT MOST 1048576: true; the input reads as it did. -/
def fnExactIsPlanUptoRow : OpenClaim := { program := "ytnkigfopejbcpaa", sum := "8bd29a4dbba18902cdfb8f1e5323cf0447bef2dff5c353af622498ea5a064085", func := "loop.example/g01110/laws.FnExactIsPlan", spec := "fnExactIsPlan", unfollowed := true, recurses := true, apart := false, narrowed := true }
def FnExactIsPlanUptoSaid : Prop := fnExactIsPlanUptoRow.holds Try.pinned (OpenSpec.upto fnExactIsPlanSpec)

/-- 'laws.FnExactMoveCost', WHERE WHAT IT READS IS OF BULK AT MOST 1048576: true; the input reads as it did. -/
def fnExactMoveCostUptoRow : OpenClaim := { program := "ytnkigfopejbcpaa", sum := "8bd29a4dbba18902cdfb8f1e5323cf0447bef2dff5c353af622498ea5a064085", func := "loop.example/g01110/laws.FnExactMoveCost", spec := "fnExactMoveCost", unfollowed := true, recurses := true, apart := false, narrowed := true }
def FnExactMoveCostUptoSaid : Prop := fnExactMoveCostUptoRow.holds Try.pinned (OpenSpec.upto fnExactMoveCostSpec)

/-- 'laws.FnExactPlanCost', WHERE WHAT IT READS IS OF BULK AT MOST 1048576: true; the input reads as it did. -/
def fnExactPlanCostUptoRow : OpenClaim := { program := "ytnkigfopejbcpaa", sum := "8bd29a4dbba18902cdfb8f1e5323cf0447bef2dff5c353af622498ea5a064085", func := "loop.example/g01110/laws.FnExactPlanCost", spec := "fnExactPlanCost", unfollowed := true, recurses := true, apart := false, narrowed := true }
def FnExactPlanCostUptoSaid : Prop := fnExactPlanCostUptoRow.holds Try.pinned (OpenSpec.upto fnExactPlanCostSpec)

/-- 'laws.FnExactPlanMoves', WHERE WHAT IT READS IS OF BULK AT MOST 1048576: true; the input reads as it did. -/
def fnExactPlanMovesUptoRow : OpenClaim := { program := "ytnkigfopejbcpaa", sum := "8bd29a4dbba18902cdfb8f1e5323cf0447bef2dff5c353af622498ea5a064085", func := "loop.example/g01110/laws.FnExactPlanMoves", spec := "fnExactPlanMoves", unfollowed := true, recurses := true, apart := false, narrowed := true }
def FnExactPlanMovesUptoSaid : Prop := fnExactPlanMovesUptoRow.holds Try.pinned (OpenSpec.upto fnExactPlanMovesSpec)

end Rows
end Go.Proofs.Ytnkigfopejbcpaa
