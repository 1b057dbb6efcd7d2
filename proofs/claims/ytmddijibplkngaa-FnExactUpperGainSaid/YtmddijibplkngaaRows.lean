/-
  No cell of these rows narrows 'for every input' (looked for: loops, veiled, ifaces, maps, wideKeys, modest, calm, conditions, laid).
  DERIVED. THE GIVEN ROWS OF THIS SEAT. 8 by the template 'for every input the law returns true; each argument reads behind the call as it read before'; 0 by the template 'total and deterministic' (their statements: YtmddijibplkngaaTotals.lean).
  GIVEN WITH THE SEED: the statements are not yours to turn. If you find one false, say at which input.
  Laid BY PROGRAM, IN A SANDBOX (cutbox-rows.mjs): the forced cells as the released guide's own fill.sh prints them over the translation 335d6429246d581d… (all of the seat's roots in one cut). By AI agents, Wed Nov 11 2026. No macro, syntax, notation, axiom, sorry.
-/
import Derived.Test.YtmddijibplkngaaChecked
import GoSem.Claim
import GoSem.ClaimJoined
import GoSem.ClaimMapViews
import Derived.JoinedTies
import Derived.KernelRfl
namespace Go.Proofs.Ytmddijibplkngaa
/- THE CELL 'sum', in the pinned program and in every row, IS THE sha256 OF THE DUMP (.gsa) THAT YtmddijibplkngaaProg.lean LOADS. Nothing in Lean hashes anything: it is a label: what it is worth is what the hold of that sum in a sandbox is worth. -/
noncomputable def Try.pinned : Pinned := { name := "ytmddijibplkngaa", sum := "335d6429246d581d610944a949fb1bd0cffe8aefe7829e08d51d2551d861818d", checked := Try.checked }
namespace Rows
def none {H : Type} : Left H := { results := [], args := [] }

/-- 'laws.FnExactGainOf': WHATEVER THE INPUT: true; the input reads as it did. -/
def fnExactGainOfSpec : ChangeSpec := { name := "fnExactGainOf", fn := fun _ => fun
  | [d1, d2, d3] => { results := [.lit (.bool true)], args := [d1, d2, d3] }
  | _ => none }
def fnExactGainOfRow : OpenClaim := { program := "ytmddijibplkngaa", sum := "335d6429246d581d610944a949fb1bd0cffe8aefe7829e08d51d2551d861818d", func := "loop.example/g01110/laws.FnExactGainOf", spec := "fnExactGainOf", unfollowed := true, recurses := true, apart := false }
def FnExactGainOfSaid : Prop := fnExactGainOfRow.holds Try.pinned (OpenSpec.ofChange fnExactGainOfSpec)

/-- ITS FALSE NEIGHBOUR: 'it returns false'. Refute it at one input. -/
def fnExactGainOfWrong : ChangeSpec := { name := "fnExactGainOf", fn := fun _ => fun
  | [d1, d2, d3] => { results := [.lit (.bool false)], args := [d1, d2, d3] }
  | _ => none }
def FnExactGainOfWrongFalsely : Prop := fnExactGainOfRow.holds Try.pinned (OpenSpec.ofChange fnExactGainOfWrong)

/-- 'laws.FnExactMarginalGain': WHATEVER THE INPUT: true; the input reads as it did. -/
def fnExactMarginalGainSpec : ChangeSpec := { name := "fnExactMarginalGain", fn := fun _ => fun
  | [d1, d2, d3, d4] => { results := [.lit (.bool true)], args := [d1, d2, d3, d4] }
  | _ => none }
def fnExactMarginalGainRow : OpenClaim := { program := "ytmddijibplkngaa", sum := "335d6429246d581d610944a949fb1bd0cffe8aefe7829e08d51d2551d861818d", func := "loop.example/g01110/laws.FnExactMarginalGain", spec := "fnExactMarginalGain", unfollowed := true, recurses := true, apart := false }
def FnExactMarginalGainSaid : Prop := fnExactMarginalGainRow.holds Try.pinned (OpenSpec.ofChange fnExactMarginalGainSpec)

/-- ITS FALSE NEIGHBOUR: 'it returns false'. Refute it at one input. -/
def fnExactMarginalGainWrong : ChangeSpec := { name := "fnExactMarginalGain", fn := fun _ => fun
  | [d1, d2, d3, d4] => { results := [.lit (.bool false)], args := [d1, d2, d3, d4] }
  | _ => none }
def FnExactMarginalGainWrongFalsely : Prop := fnExactMarginalGainRow.holds Try.pinned (OpenSpec.ofChange fnExactMarginalGainWrong)

/-- 'laws.FnExactGainTable': WHATEVER THE INPUT: true; the input reads as it did. -/
def fnExactGainTableSpec : ChangeSpec := { name := "fnExactGainTable", fn := fun _ => fun
  | [d1, d2] => { results := [.lit (.bool true)], args := [d1, d2] }
  | _ => none }
def fnExactGainTableRow : OpenClaim := { program := "ytmddijibplkngaa", sum := "335d6429246d581d610944a949fb1bd0cffe8aefe7829e08d51d2551d861818d", func := "loop.example/g01110/laws.FnExactGainTable", spec := "fnExactGainTable", unfollowed := true, recurses := true, apart := false }
def FnExactGainTableSaid : Prop := fnExactGainTableRow.holds Try.pinned (OpenSpec.ofChange fnExactGainTableSpec)

/-- ITS FALSE NEIGHBOUR: 'it returns false'. Refute it at one input. -/
def fnExactGainTableWrong : ChangeSpec := { name := "fnExactGainTable", fn := fun _ => fun
  | [d1, d2] => { results := [.lit (.bool false)], args := [d1, d2] }
  | _ => none }
def FnExactGainTableWrongFalsely : Prop := fnExactGainTableRow.holds Try.pinned (OpenSpec.ofChange fnExactGainTableWrong)

/-- 'laws.FnExactIsMonotone': WHATEVER THE INPUT: true; the input reads as it did. -/
def fnExactIsMonotoneSpec : ChangeSpec := { name := "fnExactIsMonotone", fn := fun _ => fun
  | [d1, d2] => { results := [.lit (.bool true)], args := [d1, d2] }
  | _ => none }
def fnExactIsMonotoneRow : OpenClaim := { program := "ytmddijibplkngaa", sum := "335d6429246d581d610944a949fb1bd0cffe8aefe7829e08d51d2551d861818d", func := "loop.example/g01110/laws.FnExactIsMonotone", spec := "fnExactIsMonotone", unfollowed := true, recurses := true, apart := false }
def FnExactIsMonotoneSaid : Prop := fnExactIsMonotoneRow.holds Try.pinned (OpenSpec.ofChange fnExactIsMonotoneSpec)

/-- ITS FALSE NEIGHBOUR: 'it returns false'. Refute it at one input. -/
def fnExactIsMonotoneWrong : ChangeSpec := { name := "fnExactIsMonotone", fn := fun _ => fun
  | [d1, d2] => { results := [.lit (.bool false)], args := [d1, d2] }
  | _ => none }
def FnExactIsMonotoneWrongFalsely : Prop := fnExactIsMonotoneRow.holds Try.pinned (OpenSpec.ofChange fnExactIsMonotoneWrong)

/-- 'laws.FnExactIsSubmodular': WHATEVER THE INPUT: true; the input reads as it did. -/
def fnExactIsSubmodularSpec : ChangeSpec := { name := "fnExactIsSubmodular", fn := fun _ => fun
  | [d1, d2] => { results := [.lit (.bool true)], args := [d1, d2] }
  | _ => none }
def fnExactIsSubmodularRow : OpenClaim := { program := "ytmddijibplkngaa", sum := "335d6429246d581d610944a949fb1bd0cffe8aefe7829e08d51d2551d861818d", func := "loop.example/g01110/laws.FnExactIsSubmodular", spec := "fnExactIsSubmodular", unfollowed := true, recurses := true, apart := false }
def FnExactIsSubmodularSaid : Prop := fnExactIsSubmodularRow.holds Try.pinned (OpenSpec.ofChange fnExactIsSubmodularSpec)

/-- ITS FALSE NEIGHBOUR: 'it returns false'. Refute it at one input. -/
def fnExactIsSubmodularWrong : ChangeSpec := { name := "fnExactIsSubmodular", fn := fun _ => fun
  | [d1, d2] => { results := [.lit (.bool false)], args := [d1, d2] }
  | _ => none }
def FnExactIsSubmodularWrongFalsely : Prop := fnExactIsSubmodularRow.holds Try.pinned (OpenSpec.ofChange fnExactIsSubmodularWrong)

/-- 'laws.FnExactIsAllowed': WHATEVER THE INPUT: true; the input reads as it did. -/
def fnExactIsAllowedSpec : ChangeSpec := { name := "fnExactIsAllowed", fn := fun _ => fun
  | [d1, d2, d3, d4] => { results := [.lit (.bool true)], args := [d1, d2, d3, d4] }
  | _ => none }
def fnExactIsAllowedRow : OpenClaim := { program := "ytmddijibplkngaa", sum := "335d6429246d581d610944a949fb1bd0cffe8aefe7829e08d51d2551d861818d", func := "loop.example/g01110/laws.FnExactIsAllowed", spec := "fnExactIsAllowed", unfollowed := true, recurses := true, apart := false }
def FnExactIsAllowedSaid : Prop := fnExactIsAllowedRow.holds Try.pinned (OpenSpec.ofChange fnExactIsAllowedSpec)

/-- ITS FALSE NEIGHBOUR: 'it returns false'. Refute it at one input. -/
def fnExactIsAllowedWrong : ChangeSpec := { name := "fnExactIsAllowed", fn := fun _ => fun
  | [d1, d2, d3, d4] => { results := [.lit (.bool false)], args := [d1, d2, d3, d4] }
  | _ => none }
def FnExactIsAllowedWrongFalsely : Prop := fnExactIsAllowedRow.holds Try.pinned (OpenSpec.ofChange fnExactIsAllowedWrong)

/-- 'laws.FnExactWorthReached': WHATEVER THE INPUT: true; the input reads as it did. -/
def fnExactWorthReachedSpec : ChangeSpec := { name := "fnExactWorthReached", fn := fun _ => fun
  | [d1, d2, d3] => { results := [.lit (.bool true)], args := [d1, d2, d3] }
  | _ => none }
def fnExactWorthReachedRow : OpenClaim := { program := "ytmddijibplkngaa", sum := "335d6429246d581d610944a949fb1bd0cffe8aefe7829e08d51d2551d861818d", func := "loop.example/g01110/laws.FnExactWorthReached", spec := "fnExactWorthReached", unfollowed := true, recurses := true, apart := false }
def FnExactWorthReachedSaid : Prop := fnExactWorthReachedRow.holds Try.pinned (OpenSpec.ofChange fnExactWorthReachedSpec)

/-- ITS FALSE NEIGHBOUR: 'it returns false'. Refute it at one input. -/
def fnExactWorthReachedWrong : ChangeSpec := { name := "fnExactWorthReached", fn := fun _ => fun
  | [d1, d2, d3] => { results := [.lit (.bool false)], args := [d1, d2, d3] }
  | _ => none }
def FnExactWorthReachedWrongFalsely : Prop := fnExactWorthReachedRow.holds Try.pinned (OpenSpec.ofChange fnExactWorthReachedWrong)

/-- 'laws.FnExactUpperGain': WHATEVER THE INPUT: true; the input reads as it did. -/
def fnExactUpperGainSpec : ChangeSpec := { name := "fnExactUpperGain", fn := fun _ => fun
  | [d1, d2, d3, d4] => { results := [.lit (.bool true)], args := [d1, d2, d3, d4] }
  | _ => none }
def fnExactUpperGainRow : OpenClaim := { program := "ytmddijibplkngaa", sum := "335d6429246d581d610944a949fb1bd0cffe8aefe7829e08d51d2551d861818d", func := "loop.example/g01110/laws.FnExactUpperGain", spec := "fnExactUpperGain", unfollowed := true, recurses := true, apart := false }
def FnExactUpperGainSaid : Prop := fnExactUpperGainRow.holds Try.pinned (OpenSpec.ofChange fnExactUpperGainSpec)

/-- ITS FALSE NEIGHBOUR: 'it returns false'. Refute it at one input. -/
def fnExactUpperGainWrong : ChangeSpec := { name := "fnExactUpperGain", fn := fun _ => fun
  | [d1, d2, d3, d4] => { results := [.lit (.bool false)], args := [d1, d2, d3, d4] }
  | _ => none }
def FnExactUpperGainWrongFalsely : Prop := fnExactUpperGainRow.holds Try.pinned (OpenSpec.ofChange fnExactUpperGainWrong)

/- THE SECOND FORM. 'bulk': how many values and letters a reading holds, each counted each time it is reached (what is shared counts as often as it is met; a slice's spare places count too). A statement '..UptoSaid' is the law's where the arguments, and the package variables that the reading takes, are together of bulk at most 1048576: NARROWER than '..Said'. Prove '..Said' where nothing that the law and all that it calls make is longer than what came in: it says more and counts as full. Else prove '..UptoSaid'. A law counts once. -/
mutual
def uptoBulk {H : Type} : DataW H → Nat
  | .lit (.string bytes) => bytes.length + 1
  | .lit _ => 1
  | .nil => 1
  | .ptr d => uptoBulk d + 1
  | .slice elems spare => uptoBulkAll elems + uptoBulkAll spare + 1
  | .agg parts => uptoBulkAll parts + 1
  | .iface _ d => uptoBulk d + 1
  | .map entries => uptoBulkEntries entries + 1
  | .held _ => 1
def uptoBulkAll {H : Type} : List (DataW H) → Nat
  | [] => 0
  | d :: r => uptoBulk d + uptoBulkAll r
def uptoBulkEntries {H : Type} : List (Lit × DataW H) → Nat
  | [] => 0
  | x :: r => uptoBulkEntry x + uptoBulkEntries r
def uptoBulkEntry {H : Type} : Lit × DataW H → Nat
  | (.string bytes, d) => bytes.length + uptoBulk d + 1
  | (_, d) => uptoBulk d + 1
 end
def uptoSmall : (H : Type) → List (DataW H) → Bool := fun _ ds => decide (uptoBulkAll ds ≤ 1048576)
def OpenSpec.upto (s : _root_.Go.ChangeSpec) : _root_.Go.OpenSpec := { _root_.Go.OpenSpec.ofChange s with cond := some uptoSmall }

/-- 'laws.FnExactGainOf', WHERE WHAT IT READS IS OF BULK AT MOST 1048576: true; the input reads as it did. -/
def fnExactGainOfUptoRow : OpenClaim := { program := "ytmddijibplkngaa", sum := "335d6429246d581d610944a949fb1bd0cffe8aefe7829e08d51d2551d861818d", func := "loop.example/g01110/laws.FnExactGainOf", spec := "fnExactGainOf", unfollowed := true, recurses := true, apart := false, narrowed := true }
def FnExactGainOfUptoSaid : Prop := fnExactGainOfUptoRow.holds Try.pinned (OpenSpec.upto fnExactGainOfSpec)

/-- 'laws.FnExactMarginalGain', WHERE WHAT IT READS IS OF BULK AT MOST 1048576: true; the input reads as it did. -/
def fnExactMarginalGainUptoRow : OpenClaim := { program := "ytmddijibplkngaa", sum := "335d6429246d581d610944a949fb1bd0cffe8aefe7829e08d51d2551d861818d", func := "loop.example/g01110/laws.FnExactMarginalGain", spec := "fnExactMarginalGain", unfollowed := true, recurses := true, apart := false, narrowed := true }
def FnExactMarginalGainUptoSaid : Prop := fnExactMarginalGainUptoRow.holds Try.pinned (OpenSpec.upto fnExactMarginalGainSpec)

/-- 'laws.FnExactGainTable', WHERE WHAT IT READS IS OF BULK AT MOST 1048576: true; the input reads as it did. -/
def fnExactGainTableUptoRow : OpenClaim := { program := "ytmddijibplkngaa", sum := "335d6429246d581d610944a949fb1bd0cffe8aefe7829e08d51d2551d861818d", func := "loop.example/g01110/laws.FnExactGainTable", spec := "fnExactGainTable", unfollowed := true, recurses := true, apart := false, narrowed := true }
def FnExactGainTableUptoSaid : Prop := fnExactGainTableUptoRow.holds Try.pinned (OpenSpec.upto fnExactGainTableSpec)

/-- 'laws.FnExactIsMonotone', WHERE WHAT IT READS IS OF BULK AT MOST 1048576: true; the input reads as it did. -/
def fnExactIsMonotoneUptoRow : OpenClaim := { program := "ytmddijibplkngaa", sum := "335d6429246d581d610944a949fb1bd0cffe8aefe7829e08d51d2551d861818d", func := "loop.example/g01110/laws.FnExactIsMonotone", spec := "fnExactIsMonotone", unfollowed := true, recurses := true, apart := false, narrowed := true }
def FnExactIsMonotoneUptoSaid : Prop := fnExactIsMonotoneUptoRow.holds Try.pinned (OpenSpec.upto fnExactIsMonotoneSpec)

/-- 'laws.FnExactIsSubmodular', WHERE WHAT IT READS IS OF BULK AT MOST 1048576: true; the input reads as it did. -/
def fnExactIsSubmodularUptoRow : OpenClaim := { program := "ytmddijibplkngaa", sum := "335d6429246d581d610944a949fb1bd0cffe8aefe7829e08d51d2551d861818d", func := "loop.example/g01110/laws.FnExactIsSubmodular", spec := "fnExactIsSubmodular", unfollowed := true, recurses := true, apart := false, narrowed := true }
def FnExactIsSubmodularUptoSaid : Prop := fnExactIsSubmodularUptoRow.holds Try.pinned (OpenSpec.upto fnExactIsSubmodularSpec)

/-- 'laws.FnExactIsAllowed', WHERE WHAT IT READS IS OF BULK AT MOST 1048576: true; the input reads as it did. -/
def fnExactIsAllowedUptoRow : OpenClaim := { program := "ytmddijibplkngaa", sum := "335d6429246d581d610944a949fb1bd0cffe8aefe7829e08d51d2551d861818d", func := "loop.example/g01110/laws.FnExactIsAllowed", spec := "fnExactIsAllowed", unfollowed := true, recurses := true, apart := false, narrowed := true }
def FnExactIsAllowedUptoSaid : Prop := fnExactIsAllowedUptoRow.holds Try.pinned (OpenSpec.upto fnExactIsAllowedSpec)

/-- 'laws.FnExactWorthReached', WHERE WHAT IT READS IS OF BULK AT MOST 1048576: true; the input reads as it did. -/
def fnExactWorthReachedUptoRow : OpenClaim := { program := "ytmddijibplkngaa", sum := "335d6429246d581d610944a949fb1bd0cffe8aefe7829e08d51d2551d861818d", func := "loop.example/g01110/laws.FnExactWorthReached", spec := "fnExactWorthReached", unfollowed := true, recurses := true, apart := false, narrowed := true }
def FnExactWorthReachedUptoSaid : Prop := fnExactWorthReachedUptoRow.holds Try.pinned (OpenSpec.upto fnExactWorthReachedSpec)

/-- 'laws.FnExactUpperGain', WHERE WHAT IT READS IS OF BULK AT MOST 1048576: true; the input reads as it did. -/
def fnExactUpperGainUptoRow : OpenClaim := { program := "ytmddijibplkngaa", sum := "335d6429246d581d610944a949fb1bd0cffe8aefe7829e08d51d2551d861818d", func := "loop.example/g01110/laws.FnExactUpperGain", spec := "fnExactUpperGain", unfollowed := true, recurses := true, apart := false, narrowed := true }
def FnExactUpperGainUptoSaid : Prop := fnExactUpperGainUptoRow.holds Try.pinned (OpenSpec.upto fnExactUpperGainSpec)

end Rows
end Go.Proofs.Ytmddijibplkngaa
