/-
  No cell of these rows narrows 'for every input' (looked for: loops, veiled, ifaces, maps, wideKeys, modest, calm, conditions, laid).
  DERIVED. THE GIVEN ROWS OF THIS SEAT. 6 by the template 'for every input the law returns true; each argument reads behind the call as it read before'; 0 by the template 'total and deterministic' (their statements: YtmbgipllkbahpaaTotals.lean).
  GIVEN WITH THE SEED: the statements are not yours to turn. If you find one false, say at which input.
  Laid BY PROGRAM, IN A SANDBOX (cutbox-rows.mjs): the forced cells as the released guide's own fill.sh prints them over the translation 18f6277ddb6e0980… (all of the seat's roots in one cut). By AI agents, Wed Nov 11 2026. No macro, syntax, notation, axiom, sorry.
-/
import Derived.Test.YtmbgipllkbahpaaChecked
import GoSem.Claim
import GoSem.ClaimJoined
import GoSem.ClaimMapViews
import Derived.JoinedTies
import Derived.KernelRfl
namespace Go.Proofs.Ytmbgipllkbahpaa
/- THE CELL 'sum', in the pinned program and in every row, IS THE sha256 OF THE DUMP (.gsa) THAT YtmbgipllkbahpaaProg.lean LOADS. Nothing in Lean hashes anything: it is a label: what it is worth is what the hold of that sum in a sandbox is worth. -/
noncomputable def Try.pinned : Pinned := { name := "ytmbgipllkbahpaa", sum := "18f6277ddb6e0980894188a49650191cbf551043d82a3ec71471b5517a19b670", checked := Try.checked }
namespace Rows
def none {H : Type} : Left H := { results := [], args := [] }

/-- 'laws.FnExactIsGround': WHATEVER THE INPUT: true; the input reads as it did. -/
def fnExactIsGroundSpec : ChangeSpec := { name := "fnExactIsGround", fn := fun _ => fun
  | [d] => { results := [.lit (.bool true)], args := [d] }
  | _ => none }
def fnExactIsGroundRow : OpenClaim := { program := "ytmbgipllkbahpaa", sum := "18f6277ddb6e0980894188a49650191cbf551043d82a3ec71471b5517a19b670", func := "loop.example/g01110/laws.FnExactIsGround", spec := "fnExactIsGround", unfollowed := true, recurses := true, apart := false }
def FnExactIsGroundSaid : Prop := fnExactIsGroundRow.holds Try.pinned (OpenSpec.ofChange fnExactIsGroundSpec)

/-- ITS FALSE NEIGHBOUR: 'it returns false'. Refute it at one input. -/
def fnExactIsGroundWrong : ChangeSpec := { name := "fnExactIsGround", fn := fun _ => fun
  | [d] => { results := [.lit (.bool false)], args := [d] }
  | _ => none }
def FnExactIsGroundWrongFalsely : Prop := fnExactIsGroundRow.holds Try.pinned (OpenSpec.ofChange fnExactIsGroundWrong)

/-- 'laws.FnExactIsMetricGround': WHATEVER THE INPUT: true; the input reads as it did. -/
def fnExactIsMetricGroundSpec : ChangeSpec := { name := "fnExactIsMetricGround", fn := fun _ => fun
  | [d] => { results := [.lit (.bool true)], args := [d] }
  | _ => none }
def fnExactIsMetricGroundRow : OpenClaim := { program := "ytmbgipllkbahpaa", sum := "18f6277ddb6e0980894188a49650191cbf551043d82a3ec71471b5517a19b670", func := "loop.example/g01110/laws.FnExactIsMetricGround", spec := "fnExactIsMetricGround", unfollowed := true, recurses := true, apart := false }
def FnExactIsMetricGroundSaid : Prop := fnExactIsMetricGroundRow.holds Try.pinned (OpenSpec.ofChange fnExactIsMetricGroundSpec)

/-- ITS FALSE NEIGHBOUR: 'it returns false'. Refute it at one input. -/
def fnExactIsMetricGroundWrong : ChangeSpec := { name := "fnExactIsMetricGround", fn := fun _ => fun
  | [d] => { results := [.lit (.bool false)], args := [d] }
  | _ => none }
def FnExactIsMetricGroundWrongFalsely : Prop := fnExactIsMetricGroundRow.holds Try.pinned (OpenSpec.ofChange fnExactIsMetricGroundWrong)

/-- 'laws.FnExactDispersionOf': WHATEVER THE INPUT: true; the input reads as it did. -/
def fnExactDispersionOfSpec : ChangeSpec := { name := "fnExactDispersionOf", fn := fun _ => fun
  | [d1, d2] => { results := [.lit (.bool true)], args := [d1, d2] }
  | _ => none }
def fnExactDispersionOfRow : OpenClaim := { program := "ytmbgipllkbahpaa", sum := "18f6277ddb6e0980894188a49650191cbf551043d82a3ec71471b5517a19b670", func := "loop.example/g01110/laws.FnExactDispersionOf", spec := "fnExactDispersionOf", unfollowed := true, recurses := true, apart := false }
def FnExactDispersionOfSaid : Prop := fnExactDispersionOfRow.holds Try.pinned (OpenSpec.ofChange fnExactDispersionOfSpec)

/-- ITS FALSE NEIGHBOUR: 'it returns false'. Refute it at one input. -/
def fnExactDispersionOfWrong : ChangeSpec := { name := "fnExactDispersionOf", fn := fun _ => fun
  | [d1, d2] => { results := [.lit (.bool false)], args := [d1, d2] }
  | _ => none }
def FnExactDispersionOfWrongFalsely : Prop := fnExactDispersionOfRow.holds Try.pinned (OpenSpec.ofChange fnExactDispersionOfWrong)

/-- 'laws.FnExactProvesApart': WHATEVER THE INPUT: true; the input reads as it did. -/
def fnExactProvesApartSpec : ChangeSpec := { name := "fnExactProvesApart", fn := fun _ => fun
  | [d1, d2, d3] => { results := [.lit (.bool true)], args := [d1, d2, d3] }
  | _ => none }
def fnExactProvesApartRow : OpenClaim := { program := "ytmbgipllkbahpaa", sum := "18f6277ddb6e0980894188a49650191cbf551043d82a3ec71471b5517a19b670", func := "loop.example/g01110/laws.FnExactProvesApart", spec := "fnExactProvesApart", unfollowed := true, recurses := true, apart := false }
def FnExactProvesApartSaid : Prop := fnExactProvesApartRow.holds Try.pinned (OpenSpec.ofChange fnExactProvesApartSpec)

/-- ITS FALSE NEIGHBOUR: 'it returns false'. Refute it at one input. -/
def fnExactProvesApartWrong : ChangeSpec := { name := "fnExactProvesApart", fn := fun _ => fun
  | [d1, d2, d3] => { results := [.lit (.bool false)], args := [d1, d2, d3] }
  | _ => none }
def FnExactProvesApartWrongFalsely : Prop := fnExactProvesApartRow.holds Try.pinned (OpenSpec.ofChange fnExactProvesApartWrong)

/-- 'laws.FnExactIsAllocation': WHATEVER THE INPUT: true; the input reads as it did. -/
def fnExactIsAllocationSpec : ChangeSpec := { name := "fnExactIsAllocation", fn := fun _ => fun
  | [d1, d2] => { results := [.lit (.bool true)], args := [d1, d2] }
  | _ => none }
def fnExactIsAllocationRow : OpenClaim := { program := "ytmbgipllkbahpaa", sum := "18f6277ddb6e0980894188a49650191cbf551043d82a3ec71471b5517a19b670", func := "loop.example/g01110/laws.FnExactIsAllocation", spec := "fnExactIsAllocation", unfollowed := true, recurses := true, apart := false }
def FnExactIsAllocationSaid : Prop := fnExactIsAllocationRow.holds Try.pinned (OpenSpec.ofChange fnExactIsAllocationSpec)

/-- ITS FALSE NEIGHBOUR: 'it returns false'. Refute it at one input. -/
def fnExactIsAllocationWrong : ChangeSpec := { name := "fnExactIsAllocation", fn := fun _ => fun
  | [d1, d2] => { results := [.lit (.bool false)], args := [d1, d2] }
  | _ => none }
def FnExactIsAllocationWrongFalsely : Prop := fnExactIsAllocationRow.holds Try.pinned (OpenSpec.ofChange fnExactIsAllocationWrong)

/-- 'laws.FnExactHubCost': WHATEVER THE INPUT: true; the input reads as it did. -/
def fnExactHubCostSpec : ChangeSpec := { name := "fnExactHubCost", fn := fun _ => fun
  | [d1, d2, d3, d4] => { results := [.lit (.bool true)], args := [d1, d2, d3, d4] }
  | _ => none }
def fnExactHubCostRow : OpenClaim := { program := "ytmbgipllkbahpaa", sum := "18f6277ddb6e0980894188a49650191cbf551043d82a3ec71471b5517a19b670", func := "loop.example/g01110/laws.FnExactHubCost", spec := "fnExactHubCost", unfollowed := true, recurses := true, apart := false }
def FnExactHubCostSaid : Prop := fnExactHubCostRow.holds Try.pinned (OpenSpec.ofChange fnExactHubCostSpec)

/-- ITS FALSE NEIGHBOUR: 'it returns false'. Refute it at one input. -/
def fnExactHubCostWrong : ChangeSpec := { name := "fnExactHubCost", fn := fun _ => fun
  | [d1, d2, d3, d4] => { results := [.lit (.bool false)], args := [d1, d2, d3, d4] }
  | _ => none }
def FnExactHubCostWrongFalsely : Prop := fnExactHubCostRow.holds Try.pinned (OpenSpec.ofChange fnExactHubCostWrong)

/- THE SECOND FORM. 'bulk': how many values and letters a reading holds, each counted each time it is reached (what is shared counts as often as it is met; a slice's spare places count too). A statement '..UptoSaid' is the law's where the arguments, and the package variables that the reading takes, are together of bulk at most 1048576: NARROWER than '..Said'. Prove '..Said' where nothing that the law and all that it calls make is longer than what came in: it says more and counts as full. Else prove '..UptoSaid'. A law counts once. -/
mutual
def uptoBulk {H : Type} : DataW H → Nat
  | .lit (.string bytes) => bytes.length + 1
  | .lit _ => 1
  | .nil => 1
  | .ptr d => uptoBulk d + 1
  | .slice elems spare => uptoBulkAll elems + uptoBulkAll spare + 1
  | .agg parts => uptoBulkAll parts + 1
  | .iface _ d => uptoBulk d + 1
  | .map entries => uptoBulkEntries entries + 1
  | .held _ => 1
def uptoBulkAll {H : Type} : List (DataW H) → Nat
  | [] => 0
  | d :: r => uptoBulk d + uptoBulkAll r
def uptoBulkEntries {H : Type} : List (Lit × DataW H) → Nat
  | [] => 0
  | x :: r => uptoBulkEntry x + uptoBulkEntries r
def uptoBulkEntry {H : Type} : Lit × DataW H → Nat
  | (.string bytes, d) => bytes.length + uptoBulk d + 1
  | (_, d) => uptoBulk d + 1
 end
def uptoSmall : (H : Type) → List (DataW H) → Bool := fun _ ds => decide (uptoBulkAll ds ≤ 1048576)
def OpenSpec.upto (s : _root_.Go.ChangeSpec) : _root_.Go.OpenSpec := { _root_.Go.OpenSpec.ofChange s with cond := some uptoSmall }

/-- 'laws.FnExactIsGround', WHERE WHAT IT READS IS OF BULK AT MOST 1048576: true; the input reads as it did. -/
def fnExactIsGroundUptoRow : OpenClaim := { program := "ytmbgipllkbahpaa", sum := "18f6277ddb6e0980894188a49650191cbf551043d82a3ec71471b5517a19b670", func := "loop.example/g01110/laws.FnExactIsGround", spec := "fnExactIsGround", unfollowed := true, recurses := true, apart := false, narrowed := true }
def FnExactIsGroundUptoSaid : Prop := fnExactIsGroundUptoRow.holds Try.pinned (OpenSpec.upto fnExactIsGroundSpec)

/-- 'laws.FnExactIsMetricGround', WHERE WHAT IT READS IS OF BULK AT MOST 1048576: true; the input reads as it did. -/
def fnExactIsMetricGroundUptoRow : OpenClaim := { program := "ytmbgipllkbahpaa", sum := "18f6277ddb6e0980894188a49650191cbf551043d82a3ec71471b5517a19b670", func := "loop.example/g01110/laws.FnExactIsMetricGround", spec := "fnExactIsMetricGround", unfollowed := true, recurses := true, apart := false, narrowed := true }
def FnExactIsMetricGroundUptoSaid : Prop := fnExactIsMetricGroundUptoRow.holds Try.pinned (OpenSpec.upto fnExactIsMetricGroundSpec)

/-- 'laws.FnExactDispersionOf', WHERE WHAT IT READS IS OF BULK AT MOST 1048576: true; the input reads as it did. -/
def fnExactDispersionOfUptoRow : OpenClaim := { program := "ytmbgipllkbahpaa", sum := "18f6277ddb6e0980894188a49650191cbf551043d82a3ec71471b5517a19b670", func := "loop.example/g01110/laws.FnExactDispersionOf", spec := "fnExactDispersionOf", unfollowed := true, recurses := true, apart := false, narrowed := true }
def FnExactDispersionOfUptoSaid : Prop := fnExactDispersionOfUptoRow.holds Try.pinned (OpenSpec.upto fnExactDispersionOfSpec)

/-- 'laws.FnExactProvesApart', WHERE WHAT IT READS IS OF BULK AT MOST 1048576: true; the input reads as it did. -/
def fnExactProvesApartUptoRow : OpenClaim := { program := "ytmbgipllkbahpaa", sum := "18f6277ddb6e0980894188a49650191cbf551043d82a3ec71471b5517a19b670", func := "loop.example/g01110/laws.FnExactProvesApart", spec := "fnExactProvesApart", unfollowed := true, recurses := true, apart := false, narrowed := true }
def FnExactProvesApartUptoSaid : Prop := fnExactProvesApartUptoRow.holds Try.pinned (OpenSpec.upto fnExactProvesApartSpec)

/-- 'laws.FnExactIsAllocation', WHERE WHAT IT READS IS OF BULK AT MOST 1048576: true; the input reads as it did. -/
def fnExactIsAllocationUptoRow : OpenClaim := { program := "ytmbgipllkbahpaa", sum := "18f6277ddb6e0980894188a49650191cbf551043d82a3ec71471b5517a19b670", func := "loop.example/g01110/laws.FnExactIsAllocation", spec := "fnExactIsAllocation", unfollowed := true, recurses := true, apart := false, narrowed := true }
def FnExactIsAllocationUptoSaid : Prop := fnExactIsAllocationUptoRow.holds Try.pinned (OpenSpec.upto fnExactIsAllocationSpec)

/-- 'laws.FnExactHubCost', WHERE WHAT IT READS IS OF BULK AT MOST 1048576: true; the input reads as it did. -/
def fnExactHubCostUptoRow : OpenClaim := { program := "ytmbgipllkbahpaa", sum := "18f6277ddb6e0980894188a49650191cbf551043d82a3ec71471b5517a19b670", func := "loop.example/g01110/laws.FnExactHubCost", spec := "fnExactHubCost", unfollowed := true, recurses := true, apart := false, narrowed := true }
def FnExactHubCostUptoSaid : Prop := fnExactHubCostUptoRow.holds Try.pinned (OpenSpec.upto fnExactHubCostSpec)

end Rows
end Go.Proofs.Ytmbgipllkbahpaa
