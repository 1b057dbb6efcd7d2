/-
  No cell of these rows narrows 'for every input' (looked for: loops, veiled, ifaces, maps, wideKeys, modest, calm, conditions, laid).
  DERIVED. THE GIVEN ROWS OF THIS SEAT. 10 by the template 'for every input the law returns true; each argument reads behind the call as it read before'; 0 by the template 'total and deterministic' (their statements: YtjdffillfccakaaTotals.lean).
  GIVEN WITH THE SEED: the statements are not yours to turn. If you find one false, say at which input.
  Laid BY PROGRAM, IN A SANDBOX (cutbox-rows.mjs): the forced cells as the released guide's own fill.sh prints them over the translation ceda47c8c0098506… (all of the seat's roots in one cut). By AI agents, Wed Nov 11 2026. No macro, syntax, notation, axiom, sorry.
-/
import Derived.Test.YtjdffillfccakaaChecked
import GoSem.Claim
import GoSem.ClaimJoined
import GoSem.ClaimMapViews
import Derived.JoinedTies
import Derived.KernelRfl
namespace Go.Proofs.Ytjdffillfccakaa
/- THE CELL 'sum', in the pinned program and in every row, IS THE sha256 OF THE DUMP (.gsa) THAT YtjdffillfccakaaProg.lean LOADS. Nothing in Lean hashes anything: it is a label: what it is worth is what the hold of that sum in a sandbox is worth. -/
noncomputable def Try.pinned : Pinned := { name := "ytjdffillfccakaa", sum := "ceda47c8c00985060479d85dfcd7f2333a1c828ed388fbc6d5f416fec80e7ccb", checked := Try.checked }
namespace Rows
def none {H : Type} : Left H := { results := [], args := [] }

/-- 'laws.FnExactBestCentres': WHATEVER THE INPUT: true; the input reads as it did. -/
def fnExactBestCentresSpec : ChangeSpec := { name := "fnExactBestCentres", fn := fun _ => fun
  | [d1, d2] => { results := [.lit (.bool true)], args := [d1, d2] }
  | _ => none }
def fnExactBestCentresRow : OpenClaim := { program := "ytjdffillfccakaa", sum := "ceda47c8c00985060479d85dfcd7f2333a1c828ed388fbc6d5f416fec80e7ccb", func := "loop.example/g01110/laws.FnExactBestCentres", spec := "fnExactBestCentres", unfollowed := true, recurses := true, apart := false }
def FnExactBestCentresSaid : Prop := fnExactBestCentresRow.holds Try.pinned (OpenSpec.ofChange fnExactBestCentresSpec)

/-- ITS FALSE NEIGHBOUR: 'it returns false'. Refute it at one input. -/
def fnExactBestCentresWrong : ChangeSpec := { name := "fnExactBestCentres", fn := fun _ => fun
  | [d1, d2] => { results := [.lit (.bool false)], args := [d1, d2] }
  | _ => none }
def FnExactBestCentresWrongFalsely : Prop := fnExactBestCentresRow.holds Try.pinned (OpenSpec.ofChange fnExactBestCentresWrong)

/-- 'laws.FnExactCentreReach': WHATEVER THE INPUT: true; the input reads as it did. -/
def fnExactCentreReachSpec : ChangeSpec := { name := "fnExactCentreReach", fn := fun _ => fun
  | [d1, d2] => { results := [.lit (.bool true)], args := [d1, d2] }
  | _ => none }
def fnExactCentreReachRow : OpenClaim := { program := "ytjdffillfccakaa", sum := "ceda47c8c00985060479d85dfcd7f2333a1c828ed388fbc6d5f416fec80e7ccb", func := "loop.example/g01110/laws.FnExactCentreReach", spec := "fnExactCentreReach", unfollowed := true, recurses := true, apart := false }
def FnExactCentreReachSaid : Prop := fnExactCentreReachRow.holds Try.pinned (OpenSpec.ofChange fnExactCentreReachSpec)

/-- ITS FALSE NEIGHBOUR: 'it returns false'. Refute it at one input. -/
def fnExactCentreReachWrong : ChangeSpec := { name := "fnExactCentreReach", fn := fun _ => fun
  | [d1, d2] => { results := [.lit (.bool false)], args := [d1, d2] }
  | _ => none }
def FnExactCentreReachWrongFalsely : Prop := fnExactCentreReachRow.holds Try.pinned (OpenSpec.ofChange fnExactCentreReachWrong)

/-- 'laws.FnExactBestPartial': WHATEVER THE INPUT: true; the input reads as it did. -/
def fnExactBestPartialSpec : ChangeSpec := { name := "fnExactBestPartial", fn := fun _ => fun
  | [d1, d2, d3] => { results := [.lit (.bool true)], args := [d1, d2, d3] }
  | _ => none }
def fnExactBestPartialRow : OpenClaim := { program := "ytjdffillfccakaa", sum := "ceda47c8c00985060479d85dfcd7f2333a1c828ed388fbc6d5f416fec80e7ccb", func := "loop.example/g01110/laws.FnExactBestPartial", spec := "fnExactBestPartial", unfollowed := true, recurses := true, apart := false }
def FnExactBestPartialSaid : Prop := fnExactBestPartialRow.holds Try.pinned (OpenSpec.ofChange fnExactBestPartialSpec)

/-- ITS FALSE NEIGHBOUR: 'it returns false'. Refute it at one input. -/
def fnExactBestPartialWrong : ChangeSpec := { name := "fnExactBestPartial", fn := fun _ => fun
  | [d1, d2, d3] => { results := [.lit (.bool false)], args := [d1, d2, d3] }
  | _ => none }
def FnExactBestPartialWrongFalsely : Prop := fnExactBestPartialRow.holds Try.pinned (OpenSpec.ofChange fnExactBestPartialWrong)

/-- 'laws.FnExactCoveringSites': WHATEVER THE INPUT: true; the input reads as it did. -/
def fnExactCoveringSitesSpec : ChangeSpec := { name := "fnExactCoveringSites", fn := fun _ => fun
  | [d1, d2] => { results := [.lit (.bool true)], args := [d1, d2] }
  | _ => none }
def fnExactCoveringSitesRow : OpenClaim := { program := "ytjdffillfccakaa", sum := "ceda47c8c00985060479d85dfcd7f2333a1c828ed388fbc6d5f416fec80e7ccb", func := "loop.example/g01110/laws.FnExactCoveringSites", spec := "fnExactCoveringSites", unfollowed := true, recurses := true, apart := false }
def FnExactCoveringSitesSaid : Prop := fnExactCoveringSitesRow.holds Try.pinned (OpenSpec.ofChange fnExactCoveringSitesSpec)

/-- ITS FALSE NEIGHBOUR: 'it returns false'. Refute it at one input. -/
def fnExactCoveringSitesWrong : ChangeSpec := { name := "fnExactCoveringSites", fn := fun _ => fun
  | [d1, d2] => { results := [.lit (.bool false)], args := [d1, d2] }
  | _ => none }
def FnExactCoveringSitesWrongFalsely : Prop := fnExactCoveringSitesRow.holds Try.pinned (OpenSpec.ofChange fnExactCoveringSitesWrong)

/-- 'laws.FnExactBestSet': WHATEVER THE INPUT: true; the input reads as it did. -/
def fnExactBestSetSpec : ChangeSpec := { name := "fnExactBestSet", fn := fun _ => fun
  | [d] => { results := [.lit (.bool true)], args := [d] }
  | _ => none }
def fnExactBestSetRow : OpenClaim := { program := "ytjdffillfccakaa", sum := "ceda47c8c00985060479d85dfcd7f2333a1c828ed388fbc6d5f416fec80e7ccb", func := "loop.example/g01110/laws.FnExactBestSet", spec := "fnExactBestSet", unfollowed := true, recurses := true, apart := false }
def FnExactBestSetSaid : Prop := fnExactBestSetRow.holds Try.pinned (OpenSpec.ofChange fnExactBestSetSpec)

/-- ITS FALSE NEIGHBOUR: 'it returns false'. Refute it at one input. -/
def fnExactBestSetWrong : ChangeSpec := { name := "fnExactBestSet", fn := fun _ => fun
  | [d] => { results := [.lit (.bool false)], args := [d] }
  | _ => none }
def FnExactBestSetWrongFalsely : Prop := fnExactBestSetRow.holds Try.pinned (OpenSpec.ofChange fnExactBestSetWrong)

/-- 'laws.FnExactBestTotal': WHATEVER THE INPUT: true; the input reads as it did. -/
def fnExactBestTotalSpec : ChangeSpec := { name := "fnExactBestTotal", fn := fun _ => fun
  | [d] => { results := [.lit (.bool true)], args := [d] }
  | _ => none }
def fnExactBestTotalRow : OpenClaim := { program := "ytjdffillfccakaa", sum := "ceda47c8c00985060479d85dfcd7f2333a1c828ed388fbc6d5f416fec80e7ccb", func := "loop.example/g01110/laws.FnExactBestTotal", spec := "fnExactBestTotal", unfollowed := true, recurses := true, apart := false }
def FnExactBestTotalSaid : Prop := fnExactBestTotalRow.holds Try.pinned (OpenSpec.ofChange fnExactBestTotalSpec)

/-- ITS FALSE NEIGHBOUR: 'it returns false'. Refute it at one input. -/
def fnExactBestTotalWrong : ChangeSpec := { name := "fnExactBestTotal", fn := fun _ => fun
  | [d] => { results := [.lit (.bool false)], args := [d] }
  | _ => none }
def FnExactBestTotalWrongFalsely : Prop := fnExactBestTotalRow.holds Try.pinned (OpenSpec.ofChange fnExactBestTotalWrong)

/-- 'laws.FnExactLargestFar': WHATEVER THE INPUT: true; the input reads as it did. -/
def fnExactLargestFarSpec : ChangeSpec := { name := "fnExactLargestFar", fn := fun _ => fun
  | [d1, d2] => { results := [.lit (.bool true)], args := [d1, d2] }
  | _ => none }
def fnExactLargestFarRow : OpenClaim := { program := "ytjdffillfccakaa", sum := "ceda47c8c00985060479d85dfcd7f2333a1c828ed388fbc6d5f416fec80e7ccb", func := "loop.example/g01110/laws.FnExactLargestFar", spec := "fnExactLargestFar", unfollowed := true, recurses := true, apart := false }
def FnExactLargestFarSaid : Prop := fnExactLargestFarRow.holds Try.pinned (OpenSpec.ofChange fnExactLargestFarSpec)

/-- ITS FALSE NEIGHBOUR: 'it returns false'. Refute it at one input. -/
def fnExactLargestFarWrong : ChangeSpec := { name := "fnExactLargestFar", fn := fun _ => fun
  | [d1, d2] => { results := [.lit (.bool false)], args := [d1, d2] }
  | _ => none }
def FnExactLargestFarWrongFalsely : Prop := fnExactLargestFarRow.holds Try.pinned (OpenSpec.ofChange fnExactLargestFarWrong)

/-- 'laws.FnExactFarReach': WHATEVER THE INPUT: true; the input reads as it did. -/
def fnExactFarReachSpec : ChangeSpec := { name := "fnExactFarReach", fn := fun _ => fun
  | [d1, d2] => { results := [.lit (.bool true)], args := [d1, d2] }
  | _ => none }
def fnExactFarReachRow : OpenClaim := { program := "ytjdffillfccakaa", sum := "ceda47c8c00985060479d85dfcd7f2333a1c828ed388fbc6d5f416fec80e7ccb", func := "loop.example/g01110/laws.FnExactFarReach", spec := "fnExactFarReach", unfollowed := true, recurses := true, apart := false }
def FnExactFarReachSaid : Prop := fnExactFarReachRow.holds Try.pinned (OpenSpec.ofChange fnExactFarReachSpec)

/-- ITS FALSE NEIGHBOUR: 'it returns false'. Refute it at one input. -/
def fnExactFarReachWrong : ChangeSpec := { name := "fnExactFarReach", fn := fun _ => fun
  | [d1, d2] => { results := [.lit (.bool false)], args := [d1, d2] }
  | _ => none }
def FnExactFarReachWrongFalsely : Prop := fnExactFarReachRow.holds Try.pinned (OpenSpec.ofChange fnExactFarReachWrong)

/-- 'laws.FnExactGreedyMedian': WHATEVER THE INPUT: true; the input reads as it did. -/
def fnExactGreedyMedianSpec : ChangeSpec := { name := "fnExactGreedyMedian", fn := fun _ => fun
  | [d1, d2] => { results := [.lit (.bool true)], args := [d1, d2] }
  | _ => none }
def fnExactGreedyMedianRow : OpenClaim := { program := "ytjdffillfccakaa", sum := "ceda47c8c00985060479d85dfcd7f2333a1c828ed388fbc6d5f416fec80e7ccb", func := "loop.example/g01110/laws.FnExactGreedyMedian", spec := "fnExactGreedyMedian", unfollowed := true, recurses := true, apart := false }
def FnExactGreedyMedianSaid : Prop := fnExactGreedyMedianRow.holds Try.pinned (OpenSpec.ofChange fnExactGreedyMedianSpec)

/-- ITS FALSE NEIGHBOUR: 'it returns false'. Refute it at one input. -/
def fnExactGreedyMedianWrong : ChangeSpec := { name := "fnExactGreedyMedian", fn := fun _ => fun
  | [d1, d2] => { results := [.lit (.bool false)], args := [d1, d2] }
  | _ => none }
def FnExactGreedyMedianWrongFalsely : Prop := fnExactGreedyMedianRow.holds Try.pinned (OpenSpec.ofChange fnExactGreedyMedianWrong)

/-- 'laws.FnExactReverseMedian': WHATEVER THE INPUT: true; the input reads as it did. -/
def fnExactReverseMedianSpec : ChangeSpec := { name := "fnExactReverseMedian", fn := fun _ => fun
  | [d1, d2] => { results := [.lit (.bool true)], args := [d1, d2] }
  | _ => none }
def fnExactReverseMedianRow : OpenClaim := { program := "ytjdffillfccakaa", sum := "ceda47c8c00985060479d85dfcd7f2333a1c828ed388fbc6d5f416fec80e7ccb", func := "loop.example/g01110/laws.FnExactReverseMedian", spec := "fnExactReverseMedian", unfollowed := true, recurses := true, apart := false }
def FnExactReverseMedianSaid : Prop := fnExactReverseMedianRow.holds Try.pinned (OpenSpec.ofChange fnExactReverseMedianSpec)

/-- ITS FALSE NEIGHBOUR: 'it returns false'. Refute it at one input. -/
def fnExactReverseMedianWrong : ChangeSpec := { name := "fnExactReverseMedian", fn := fun _ => fun
  | [d1, d2] => { results := [.lit (.bool false)], args := [d1, d2] }
  | _ => none }
def FnExactReverseMedianWrongFalsely : Prop := fnExactReverseMedianRow.holds Try.pinned (OpenSpec.ofChange fnExactReverseMedianWrong)

/- THE SECOND FORM. 'bulk': how many values and letters a reading holds, each counted each time it is reached (what is shared counts as often as it is met; a slice's spare places count too). A statement '..UptoSaid' is the law's where the arguments, and the package variables that the reading takes, are together of bulk at most 1048576: NARROWER than '..Said'. Prove '..Said' where nothing that the law and all that it calls make is longer than what came in: it says more and counts as full. Else prove '..UptoSaid'. A law counts once. -/
mutual
def uptoBulk {H : Type} : DataW H → Nat
  | .lit (.string bytes) => bytes.length + 1
  | .lit _ => 1
  | .nil => 1
  | .ptr d => uptoBulk d + 1
  | .slice elems spare => uptoBulkAll elems + uptoBulkAll spare + 1
  | .agg parts => uptoBulkAll parts + 1
  | .iface _ d => uptoBulk d + 1
  | .map entries => uptoBulkEntries entries + 1
  | .held _ => 1
def uptoBulkAll {H : Type} : List (DataW H) → Nat
  | [] => 0
  | d :: r => uptoBulk d + uptoBulkAll r
def uptoBulkEntries {H : Type} : List (Lit × DataW H) → Nat
  | [] => 0
  | x :: r => uptoBulkEntry x + uptoBulkEntries r
def uptoBulkEntry {H : Type} : Lit × DataW H → Nat
  | (.string bytes, d) => bytes.length + uptoBulk d + 1
  | (_, d) => uptoBulk d + 1
 end
def uptoSmall : (H : Type) → List (DataW H) → Bool := fun _ ds => decide (uptoBulkAll ds ≤ 1048576)
def OpenSpec.upto (s : _root_.Go.ChangeSpec) : _root_.Go.OpenSpec := { _root_.Go.OpenSpec.ofChange s with cond := some uptoSmall }

/-- 'laws.FnExactBestCentres', WHERE WHAT IT READS IS OF BULK AT MOST 1048576: true; the input reads as it did. -/
def fnExactBestCentresUptoRow : OpenClaim := { program := "ytjdffillfccakaa", sum := "ceda47c8c00985060479d85dfcd7f2333a1c828ed388fbc6d5f416fec80e7ccb", func := "loop.example/g01110/laws.FnExactBestCentres", spec := "fnExactBestCentres", unfollowed := true, recurses := true, apart := false, narrowed := true }
def FnExactBestCentresUptoSaid : Prop := fnExactBestCentresUptoRow.holds Try.pinned (OpenSpec.upto fnExactBestCentresSpec)

/-- 'laws.FnExactCentreReach', WHERE WHAT IT READS IS OF BULK AT MOST 1048576: true; the input reads as it did. -/
def fnExactCentreReachUptoRow : OpenClaim := { program := "ytjdffillfccakaa", sum := "ceda47c8c00985060479d85dfcd7f2333a1c828ed388fbc6d5f416fec80e7ccb", func := "loop.example/g01110/laws.FnExactCentreReach", spec := "fnExactCentreReach", unfollowed := true, recurses := true, apart := false, narrowed := true }
def FnExactCentreReachUptoSaid : Prop := fnExactCentreReachUptoRow.holds Try.pinned (OpenSpec.upto fnExactCentreReachSpec)

/-- 'laws.FnExactBestPartial', WHERE WHAT IT READS IS OF BULK AT MOST 1048576: true; the input reads as it did. -/
def fnExactBestPartialUptoRow : OpenClaim := { program := "ytjdffillfccakaa", sum := "ceda47c8c00985060479d85dfcd7f2333a1c828ed388fbc6d5f416fec80e7ccb", func := "loop.example/g01110/laws.FnExactBestPartial", spec := "fnExactBestPartial", unfollowed := true, recurses := true, apart := false, narrowed := true }
def FnExactBestPartialUptoSaid : Prop := fnExactBestPartialUptoRow.holds Try.pinned (OpenSpec.upto fnExactBestPartialSpec)

/-- 'laws.FnExactCoveringSites', WHERE WHAT IT READS IS OF BULK AT MOST 1048576: true; the input reads as it did. -/
def fnExactCoveringSitesUptoRow : OpenClaim := { program := "ytjdffillfccakaa", sum := "ceda47c8c00985060479d85dfcd7f2333a1c828ed388fbc6d5f416fec80e7ccb", func := "loop.example/g01110/laws.FnExactCoveringSites", spec := "fnExactCoveringSites", unfollowed := true, recurses := true, apart := false, narrowed := true }
def FnExactCoveringSitesUptoSaid : Prop := fnExactCoveringSitesUptoRow.holds Try.pinned (OpenSpec.upto fnExactCoveringSitesSpec)

/-- 'laws.FnExactBestSet', WHERE WHAT IT READS IS OF BULK AT MOST 1048576: true; the input reads as it did. -/
def fnExactBestSetUptoRow : OpenClaim := { program := "ytjdffillfccakaa", sum := "ceda47c8c00985060479d85dfcd7f2333a1c828ed388fbc6d5f416fec80e7ccb", func := "loop.example/g01110/laws.FnExactBestSet", spec := "fnExactBestSet", unfollowed := true, recurses := true, apart := false, narrowed := true }
def FnExactBestSetUptoSaid : Prop := fnExactBestSetUptoRow.holds Try.pinned (OpenSpec.upto fnExactBestSetSpec)

/-- 'laws.FnExactBestTotal', WHERE WHAT IT READS IS OF BULK AT MOST 1048576: true; the input reads as it did. -/
def fnExactBestTotalUptoRow : OpenClaim := { program := "ytjdffillfccakaa", sum := "ceda47c8c00985060479d85dfcd7f2333a1c828ed388fbc6d5f416fec80e7ccb", func := "loop.example/g01110/laws.FnExactBestTotal", spec := "fnExactBestTotal", unfollowed := true, recurses := true, apart := false, narrowed := true }
def FnExactBestTotalUptoSaid : Prop := fnExactBestTotalUptoRow.holds Try.pinned (OpenSpec.upto fnExactBestTotalSpec)

/-- 'laws.FnExactLargestFar', WHERE WHAT IT READS IS OF BULK AT MOST 1048576: true; the input reads as it did. -/
def fnExactLargestFarUptoRow : OpenClaim := { program := "ytjdffillfccakaa", sum := "ceda47c8c00985060479d85dfcd7f2333a1c828ed388fbc6d5f416fec80e7ccb", func := "loop.example/g01110/laws.FnExactLargestFar", spec := "fnExactLargestFar", unfollowed := true, recurses := true, apart := false, narrowed := true }
def FnExactLargestFarUptoSaid : Prop := fnExactLargestFarUptoRow.holds Try.pinned (OpenSpec.upto fnExactLargestFarSpec)

/-- 'laws.FnExactFarReach', WHERE WHAT IT READS IS OF BULK AT MOST 1048576: true; the input reads as it did. -/
def fnExactFarReachUptoRow : OpenClaim := { program := "ytjdffillfccakaa", sum := "ceda47c8c00985060479d85dfcd7f2333a1c828ed388fbc6d5f416fec80e7ccb", func := "loop.example/g01110/laws.FnExactFarReach", spec := "fnExactFarReach", unfollowed := true, recurses := true, apart := false, narrowed := true }
def FnExactFarReachUptoSaid : Prop := fnExactFarReachUptoRow.holds Try.pinned (OpenSpec.upto fnExactFarReachSpec)

/-- 'laws.FnExactGreedyMedian', WHERE WHAT IT READS IS OF BULK AT MOST 1048576: true; the input reads as it did. -/
def fnExactGreedyMedianUptoRow : OpenClaim := { program := "ytjdffillfccakaa", sum := "ceda47c8c00985060479d85dfcd7f2333a1c828ed388fbc6d5f416fec80e7ccb", func := "loop.example/g01110/laws.FnExactGreedyMedian", spec := "fnExactGreedyMedian", unfollowed := true, recurses := true, apart := false, narrowed := true }
def FnExactGreedyMedianUptoSaid : Prop := fnExactGreedyMedianUptoRow.holds Try.pinned (OpenSpec.upto fnExactGreedyMedianSpec)

/-- 'laws.FnExactReverseMedian', WHERE WHAT IT READS IS OF BULK AT MOST 1048576: true; the input reads as it did. -/
def fnExactReverseMedianUptoRow : OpenClaim := { program := "ytjdffillfccakaa", sum := "ceda47c8c00985060479d85dfcd7f2333a1c828ed388fbc6d5f416fec80e7ccb", func := "loop.example/g01110/laws.FnExactReverseMedian", spec := "fnExactReverseMedian", unfollowed := true, recurses := true, apart := false, narrowed := true }
def FnExactReverseMedianUptoSaid : Prop := fnExactReverseMedianUptoRow.holds Try.pinned (OpenSpec.upto fnExactReverseMedianSpec)

end Rows
end Go.Proofs.Ytjdffillfccakaa
