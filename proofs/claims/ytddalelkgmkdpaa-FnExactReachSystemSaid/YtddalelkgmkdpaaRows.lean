/-
  No cell of these rows narrows 'for every input' (looked for: loops, veiled, ifaces, maps, wideKeys, modest, calm, conditions, laid).
  DERIVED. THE GIVEN ROWS OF THIS SEAT. 9 by the template 'for every input the law returns true; each argument reads behind the call as it read before'; 0 by the template 'total and deterministic' (their statements: YtddalelkgmkdpaaTotals.lean).
  GIVEN WITH THE SEED: the statements are not yours to turn. If you find one false, say at which input.
  Laid BY PROGRAM, IN A SANDBOX (cutbox-rows.mjs): the forced cells as the released guide's own fill.sh prints them over the translation de8262dc01f847e8… (all of the seat's roots in one cut). By AI agents, Wed Nov 11 2026. No macro, syntax, notation, axiom, sorry.
-/
import Derived.Test.YtddalelkgmkdpaaChecked
import GoSem.Claim
import GoSem.ClaimJoined
import GoSem.ClaimMapViews
import Derived.JoinedTies
import Derived.KernelRfl
namespace Go.Proofs.Ytddalelkgmkdpaa
/- THE CELL 'sum', in the pinned program and in every row, IS THE sha256 OF THE DUMP (.gsa) THAT YtddalelkgmkdpaaProg.lean LOADS. Nothing in Lean hashes anything: it is a label: what it is worth is what the hold of that sum in a sandbox is worth. -/
noncomputable def Try.pinned : Pinned := { name := "ytddalelkgmkdpaa", sum := "de8262dc01f847e878a9a56b00764174c9dee9c623889cf2f917f7814af93781", checked := Try.checked }
namespace Rows
def none {H : Type} : Left H := { results := [], args := [] }

/-- 'laws.FnExactLeastCover': WHATEVER THE INPUT: true; the input reads as it did. -/
def fnExactLeastCoverSpec : ChangeSpec := { name := "fnExactLeastCover", fn := fun _ => fun
  | [d] => { results := [.lit (.bool true)], args := [d] }
  | _ => none }
def fnExactLeastCoverRow : OpenClaim := { program := "ytddalelkgmkdpaa", sum := "de8262dc01f847e878a9a56b00764174c9dee9c623889cf2f917f7814af93781", func := "loop.example/g01110/laws.FnExactLeastCover", spec := "fnExactLeastCover", unfollowed := true, recurses := true, apart := false }
def FnExactLeastCoverSaid : Prop := fnExactLeastCoverRow.holds Try.pinned (OpenSpec.ofChange fnExactLeastCoverSpec)

/-- ITS FALSE NEIGHBOUR: 'it returns false'. Refute it at one input. -/
def fnExactLeastCoverWrong : ChangeSpec := { name := "fnExactLeastCover", fn := fun _ => fun
  | [d] => { results := [.lit (.bool false)], args := [d] }
  | _ => none }
def FnExactLeastCoverWrongFalsely : Prop := fnExactLeastCoverRow.holds Try.pinned (OpenSpec.ofChange fnExactLeastCoverWrong)

/-- 'laws.FnExactGreedyCover': WHATEVER THE INPUT: true; the input reads as it did. -/
def fnExactGreedyCoverSpec : ChangeSpec := { name := "fnExactGreedyCover", fn := fun _ => fun
  | [d] => { results := [.lit (.bool true)], args := [d] }
  | _ => none }
def fnExactGreedyCoverRow : OpenClaim := { program := "ytddalelkgmkdpaa", sum := "de8262dc01f847e878a9a56b00764174c9dee9c623889cf2f917f7814af93781", func := "loop.example/g01110/laws.FnExactGreedyCover", spec := "fnExactGreedyCover", unfollowed := true, recurses := true, apart := false }
def FnExactGreedyCoverSaid : Prop := fnExactGreedyCoverRow.holds Try.pinned (OpenSpec.ofChange fnExactGreedyCoverSpec)

/-- ITS FALSE NEIGHBOUR: 'it returns false'. Refute it at one input. -/
def fnExactGreedyCoverWrong : ChangeSpec := { name := "fnExactGreedyCover", fn := fun _ => fun
  | [d] => { results := [.lit (.bool false)], args := [d] }
  | _ => none }
def FnExactGreedyCoverWrongFalsely : Prop := fnExactGreedyCoverRow.holds Try.pinned (OpenSpec.ofChange fnExactGreedyCoverWrong)

/-- 'laws.FnExactGreedyPrices': WHATEVER THE INPUT: true; the input reads as it did. -/
def fnExactGreedyPricesSpec : ChangeSpec := { name := "fnExactGreedyPrices", fn := fun _ => fun
  | [d] => { results := [.lit (.bool true)], args := [d] }
  | _ => none }
def fnExactGreedyPricesRow : OpenClaim := { program := "ytddalelkgmkdpaa", sum := "de8262dc01f847e878a9a56b00764174c9dee9c623889cf2f917f7814af93781", func := "loop.example/g01110/laws.FnExactGreedyPrices", spec := "fnExactGreedyPrices", unfollowed := true, recurses := true, apart := false }
def FnExactGreedyPricesSaid : Prop := fnExactGreedyPricesRow.holds Try.pinned (OpenSpec.ofChange fnExactGreedyPricesSpec)

/-- ITS FALSE NEIGHBOUR: 'it returns false'. Refute it at one input. -/
def fnExactGreedyPricesWrong : ChangeSpec := { name := "fnExactGreedyPrices", fn := fun _ => fun
  | [d] => { results := [.lit (.bool false)], args := [d] }
  | _ => none }
def FnExactGreedyPricesWrongFalsely : Prop := fnExactGreedyPricesRow.holds Try.pinned (OpenSpec.ofChange fnExactGreedyPricesWrong)

/-- 'laws.FnExactIsHitting': WHATEVER THE INPUT: true; the input reads as it did. -/
def fnExactIsHittingSpec : ChangeSpec := { name := "fnExactIsHitting", fn := fun _ => fun
  | [d1, d2] => { results := [.lit (.bool true)], args := [d1, d2] }
  | _ => none }
def fnExactIsHittingRow : OpenClaim := { program := "ytddalelkgmkdpaa", sum := "de8262dc01f847e878a9a56b00764174c9dee9c623889cf2f917f7814af93781", func := "loop.example/g01110/laws.FnExactIsHitting", spec := "fnExactIsHitting", unfollowed := true, recurses := true, apart := false }
def FnExactIsHittingSaid : Prop := fnExactIsHittingRow.holds Try.pinned (OpenSpec.ofChange fnExactIsHittingSpec)

/-- ITS FALSE NEIGHBOUR: 'it returns false'. Refute it at one input. -/
def fnExactIsHittingWrong : ChangeSpec := { name := "fnExactIsHitting", fn := fun _ => fun
  | [d1, d2] => { results := [.lit (.bool false)], args := [d1, d2] }
  | _ => none }
def FnExactIsHittingWrongFalsely : Prop := fnExactIsHittingRow.holds Try.pinned (OpenSpec.ofChange fnExactIsHittingWrong)

/-- 'laws.FnExactLeastHitting': WHATEVER THE INPUT: true; the input reads as it did. -/
def fnExactLeastHittingSpec : ChangeSpec := { name := "fnExactLeastHitting", fn := fun _ => fun
  | [d] => { results := [.lit (.bool true)], args := [d] }
  | _ => none }
def fnExactLeastHittingRow : OpenClaim := { program := "ytddalelkgmkdpaa", sum := "de8262dc01f847e878a9a56b00764174c9dee9c623889cf2f917f7814af93781", func := "loop.example/g01110/laws.FnExactLeastHitting", spec := "fnExactLeastHitting", unfollowed := true, recurses := true, apart := false }
def FnExactLeastHittingSaid : Prop := fnExactLeastHittingRow.holds Try.pinned (OpenSpec.ofChange fnExactLeastHittingSpec)

/-- ITS FALSE NEIGHBOUR: 'it returns false'. Refute it at one input. -/
def fnExactLeastHittingWrong : ChangeSpec := { name := "fnExactLeastHitting", fn := fun _ => fun
  | [d] => { results := [.lit (.bool false)], args := [d] }
  | _ => none }
def FnExactLeastHittingWrongFalsely : Prop := fnExactLeastHittingRow.holds Try.pinned (OpenSpec.ofChange fnExactLeastHittingWrong)

/-- 'laws.FnExactLargestPacking': WHATEVER THE INPUT: true; the input reads as it did. -/
def fnExactLargestPackingSpec : ChangeSpec := { name := "fnExactLargestPacking", fn := fun _ => fun
  | [d] => { results := [.lit (.bool true)], args := [d] }
  | _ => none }
def fnExactLargestPackingRow : OpenClaim := { program := "ytddalelkgmkdpaa", sum := "de8262dc01f847e878a9a56b00764174c9dee9c623889cf2f917f7814af93781", func := "loop.example/g01110/laws.FnExactLargestPacking", spec := "fnExactLargestPacking", unfollowed := true, recurses := true, apart := false }
def FnExactLargestPackingSaid : Prop := fnExactLargestPackingRow.holds Try.pinned (OpenSpec.ofChange fnExactLargestPackingSpec)

/-- ITS FALSE NEIGHBOUR: 'it returns false'. Refute it at one input. -/
def fnExactLargestPackingWrong : ChangeSpec := { name := "fnExactLargestPacking", fn := fun _ => fun
  | [d] => { results := [.lit (.bool false)], args := [d] }
  | _ => none }
def FnExactLargestPackingWrongFalsely : Prop := fnExactLargestPackingRow.holds Try.pinned (OpenSpec.ofChange fnExactLargestPackingWrong)

/-- 'laws.FnExactMostCovered': WHATEVER THE INPUT: true; the input reads as it did. -/
def fnExactMostCoveredSpec : ChangeSpec := { name := "fnExactMostCovered", fn := fun _ => fun
  | [d1, d2] => { results := [.lit (.bool true)], args := [d1, d2] }
  | _ => none }
def fnExactMostCoveredRow : OpenClaim := { program := "ytddalelkgmkdpaa", sum := "de8262dc01f847e878a9a56b00764174c9dee9c623889cf2f917f7814af93781", func := "loop.example/g01110/laws.FnExactMostCovered", spec := "fnExactMostCovered", unfollowed := true, recurses := true, apart := false }
def FnExactMostCoveredSaid : Prop := fnExactMostCoveredRow.holds Try.pinned (OpenSpec.ofChange fnExactMostCoveredSpec)

/-- ITS FALSE NEIGHBOUR: 'it returns false'. Refute it at one input. -/
def fnExactMostCoveredWrong : ChangeSpec := { name := "fnExactMostCovered", fn := fun _ => fun
  | [d1, d2] => { results := [.lit (.bool false)], args := [d1, d2] }
  | _ => none }
def FnExactMostCoveredWrongFalsely : Prop := fnExactMostCoveredRow.holds Try.pinned (OpenSpec.ofChange fnExactMostCoveredWrong)

/-- 'laws.FnExactGreedyCoverage': WHATEVER THE INPUT: true; the input reads as it did. -/
def fnExactGreedyCoverageSpec : ChangeSpec := { name := "fnExactGreedyCoverage", fn := fun _ => fun
  | [d1, d2] => { results := [.lit (.bool true)], args := [d1, d2] }
  | _ => none }
def fnExactGreedyCoverageRow : OpenClaim := { program := "ytddalelkgmkdpaa", sum := "de8262dc01f847e878a9a56b00764174c9dee9c623889cf2f917f7814af93781", func := "loop.example/g01110/laws.FnExactGreedyCoverage", spec := "fnExactGreedyCoverage", unfollowed := true, recurses := true, apart := false }
def FnExactGreedyCoverageSaid : Prop := fnExactGreedyCoverageRow.holds Try.pinned (OpenSpec.ofChange fnExactGreedyCoverageSpec)

/-- ITS FALSE NEIGHBOUR: 'it returns false'. Refute it at one input. -/
def fnExactGreedyCoverageWrong : ChangeSpec := { name := "fnExactGreedyCoverage", fn := fun _ => fun
  | [d1, d2] => { results := [.lit (.bool false)], args := [d1, d2] }
  | _ => none }
def FnExactGreedyCoverageWrongFalsely : Prop := fnExactGreedyCoverageRow.holds Try.pinned (OpenSpec.ofChange fnExactGreedyCoverageWrong)

/-- 'laws.FnExactReachSystem': WHATEVER THE INPUT: true; the input reads as it did. -/
def fnExactReachSystemSpec : ChangeSpec := { name := "fnExactReachSystem", fn := fun _ => fun
  | [d1, d2] => { results := [.lit (.bool true)], args := [d1, d2] }
  | _ => none }
def fnExactReachSystemRow : OpenClaim := { program := "ytddalelkgmkdpaa", sum := "de8262dc01f847e878a9a56b00764174c9dee9c623889cf2f917f7814af93781", func := "loop.example/g01110/laws.FnExactReachSystem", spec := "fnExactReachSystem", unfollowed := true, recurses := true, apart := false }
def FnExactReachSystemSaid : Prop := fnExactReachSystemRow.holds Try.pinned (OpenSpec.ofChange fnExactReachSystemSpec)

/-- ITS FALSE NEIGHBOUR: 'it returns false'. Refute it at one input. -/
def fnExactReachSystemWrong : ChangeSpec := { name := "fnExactReachSystem", fn := fun _ => fun
  | [d1, d2] => { results := [.lit (.bool false)], args := [d1, d2] }
  | _ => none }
def FnExactReachSystemWrongFalsely : Prop := fnExactReachSystemRow.holds Try.pinned (OpenSpec.ofChange fnExactReachSystemWrong)

/- THE SECOND FORM. 'bulk': how many values and letters a reading holds, each counted each time it is reached (what is shared counts as often as it is met; a slice's spare places count too). A statement '..UptoSaid' is the law's where the arguments, and the package variables that the reading takes, are together of bulk at most 1048576: NARROWER than '..Said'. Prove '..Said' where nothing that the law and all that it calls make is longer than what came in: it says more and counts as full. Else prove '..UptoSaid'. A law counts once. -/
mutual
def uptoBulk {H : Type} : DataW H → Nat
  | .lit (.string bytes) => bytes.length + 1
  | .lit _ => 1
  | .nil => 1
  | .ptr d => uptoBulk d + 1
  | .slice elems spare => uptoBulkAll elems + uptoBulkAll spare + 1
  | .agg parts => uptoBulkAll parts + 1
  | .iface _ d => uptoBulk d + 1
  | .map entries => uptoBulkEntries entries + 1
  | .held _ => 1
def uptoBulkAll {H : Type} : List (DataW H) → Nat
  | [] => 0
  | d :: r => uptoBulk d + uptoBulkAll r
def uptoBulkEntries {H : Type} : List (Lit × DataW H) → Nat
  | [] => 0
  | x :: r => uptoBulkEntry x + uptoBulkEntries r
def uptoBulkEntry {H : Type} : Lit × DataW H → Nat
  | (.string bytes, d) => bytes.length + uptoBulk d + 1
  | (_, d) => uptoBulk d + 1
 end
def uptoSmall : (H : Type) → List (DataW H) → Bool := fun _ ds => decide (uptoBulkAll ds ≤ 1048576)
def OpenSpec.upto (s : _root_.Go.ChangeSpec) : _root_.Go.OpenSpec := { _root_.Go.OpenSpec.ofChange s with cond := some uptoSmall }

/-- 'laws.FnExactLeastCover', WHERE WHAT IT READS IS OF BULK AT MOST 1048576: true; the input reads as it did. -/
def fnExactLeastCoverUptoRow : OpenClaim := { program := "ytddalelkgmkdpaa", sum := "de8262dc01f847e878a9a56b00764174c9dee9c623889cf2f917f7814af93781", func := "loop.example/g01110/laws.FnExactLeastCover", spec := "fnExactLeastCover", unfollowed := true, recurses := true, apart := false, narrowed := true }
def FnExactLeastCoverUptoSaid : Prop := fnExactLeastCoverUptoRow.holds Try.pinned (OpenSpec.upto fnExactLeastCoverSpec)

/-- 'laws.FnExactGreedyCover', WHERE WHAT IT READS IS OF BULK AT MOST 1048576: true; the input reads as it did. -/
def fnExactGreedyCoverUptoRow : OpenClaim := { program := "ytddalelkgmkdpaa", sum := "de8262dc01f847e878a9a56b00764174c9dee9c623889cf2f917f7814af93781", func := "loop.example/g01110/laws.FnExactGreedyCover", spec := "fnExactGreedyCover", unfollowed := true, recurses := true, apart := false, narrowed := true }
def FnExactGreedyCoverUptoSaid : Prop := fnExactGreedyCoverUptoRow.holds Try.pinned (OpenSpec.upto fnExactGreedyCoverSpec)

/-- 'laws.FnExactGreedyPrices', WHERE WHAT IT READS IS OF BULK AT MOST 1048576: true; the input reads as it did. -/
def fnExactGreedyPricesUptoRow : OpenClaim := { program := "ytddalelkgmkdpaa", sum := "de8262dc01f847e878a9a56b00764174c9dee9c623889cf2f917f7814af93781", func := "loop.example/g01110/laws.FnExactGreedyPrices", spec := "fnExactGreedyPrices", unfollowed := true, recurses := true, apart := false, narrowed := true }
def FnExactGreedyPricesUptoSaid : Prop := fnExactGreedyPricesUptoRow.holds Try.pinned (OpenSpec.upto fnExactGreedyPricesSpec)

/-- 'laws.FnExactIsHitting', WHERE WHAT IT READS IS OF BULK AT MOST 1048576: true; the input reads as it did. -/
def fnExactIsHittingUptoRow : OpenClaim := { program := "ytddalelkgmkdpaa", sum := "de8262dc01f847e878a9a56b00764174c9dee9c623889cf2f917f7814af93781", func := "loop.example/g01110/laws.FnExactIsHitting", spec := "fnExactIsHitting", unfollowed := true, recurses := true, apart := false, narrowed := true }
def FnExactIsHittingUptoSaid : Prop := fnExactIsHittingUptoRow.holds Try.pinned (OpenSpec.upto fnExactIsHittingSpec)

/-- 'laws.FnExactLeastHitting', WHERE WHAT IT READS IS OF BULK AT MOST 1048576: true; the input reads as it did. -/
def fnExactLeastHittingUptoRow : OpenClaim := { program := "ytddalelkgmkdpaa", sum := "de8262dc01f847e878a9a56b00764174c9dee9c623889cf2f917f7814af93781", func := "loop.example/g01110/laws.FnExactLeastHitting", spec := "fnExactLeastHitting", unfollowed := true, recurses := true, apart := false, narrowed := true }
def FnExactLeastHittingUptoSaid : Prop := fnExactLeastHittingUptoRow.holds Try.pinned (OpenSpec.upto fnExactLeastHittingSpec)

/-- 'laws.FnExactLargestPacking', WHERE WHAT IT READS IS OF BULK AT MOST 1048576: true; the input reads as it did. -/
def fnExactLargestPackingUptoRow : OpenClaim := { program := "ytddalelkgmkdpaa", sum := "de8262dc01f847e878a9a56b00764174c9dee9c623889cf2f917f7814af93781", func := "loop.example/g01110/laws.FnExactLargestPacking", spec := "fnExactLargestPacking", unfollowed := true, recurses := true, apart := false, narrowed := true }
def FnExactLargestPackingUptoSaid : Prop := fnExactLargestPackingUptoRow.holds Try.pinned (OpenSpec.upto fnExactLargestPackingSpec)

/-- 'laws.FnExactMostCovered', WHERE WHAT IT READS IS OF BULK AT MOST 1048576: true; the input reads as it did. -/
def fnExactMostCoveredUptoRow : OpenClaim := { program := "ytddalelkgmkdpaa", sum := "de8262dc01f847e878a9a56b00764174c9dee9c623889cf2f917f7814af93781", func := "loop.example/g01110/laws.FnExactMostCovered", spec := "fnExactMostCovered", unfollowed := true, recurses := true, apart := false, narrowed := true }
def FnExactMostCoveredUptoSaid : Prop := fnExactMostCoveredUptoRow.holds Try.pinned (OpenSpec.upto fnExactMostCoveredSpec)

/-- 'laws.FnExactGreedyCoverage', WHERE WHAT IT READS IS OF BULK AT MOST 1048576: true; the input reads as it did. -/
def fnExactGreedyCoverageUptoRow : OpenClaim := { program := "ytddalelkgmkdpaa", sum := "de8262dc01f847e878a9a56b00764174c9dee9c623889cf2f917f7814af93781", func := "loop.example/g01110/laws.FnExactGreedyCoverage", spec := "fnExactGreedyCoverage", unfollowed := true, recurses := true, apart := false, narrowed := true }
def FnExactGreedyCoverageUptoSaid : Prop := fnExactGreedyCoverageUptoRow.holds Try.pinned (OpenSpec.upto fnExactGreedyCoverageSpec)

/-- 'laws.FnExactReachSystem', WHERE WHAT IT READS IS OF BULK AT MOST 1048576: true; the input reads as it did. -/
def fnExactReachSystemUptoRow : OpenClaim := { program := "ytddalelkgmkdpaa", sum := "de8262dc01f847e878a9a56b00764174c9dee9c623889cf2f917f7814af93781", func := "loop.example/g01110/laws.FnExactReachSystem", spec := "fnExactReachSystem", unfollowed := true, recurses := true, apart := false, narrowed := true }
def FnExactReachSystemUptoSaid : Prop := fnExactReachSystemUptoRow.holds Try.pinned (OpenSpec.upto fnExactReachSystemSpec)

end Rows
end Go.Proofs.Ytddalelkgmkdpaa
