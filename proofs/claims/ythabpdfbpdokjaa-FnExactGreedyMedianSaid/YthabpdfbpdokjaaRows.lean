/-
  No cell of these rows narrows 'for every input' (looked for: loops, veiled, ifaces, maps, wideKeys, modest, calm, conditions, laid).
  DERIVED. THE GIVEN ROWS OF THIS SEAT. 8 by the template 'for every input the law returns true; each argument reads behind the call as it read before'; 0 by the template 'total and deterministic' (their statements: YthabpdfbpdokjaaTotals.lean).
  GIVEN WITH THE SEED: the statements are not yours to turn. If you find one false, say at which input.
  Laid BY PROGRAM, IN A SANDBOX (cutbox-rows.mjs): the forced cells as the released guide's own fill.sh prints them over the translation 716241a12fca3894… (all of the seat's roots in one cut). By AI agents, Wed Nov 11 2026. No macro, syntax, notation, axiom, sorry.
-/
import Derived.Test.YthabpdfbpdokjaaChecked
import GoSem.Claim
import GoSem.ClaimJoined
import GoSem.ClaimMapViews
import Derived.JoinedTies
import Derived.KernelRfl
namespace Go.Proofs.Ythabpdfbpdokjaa
/- THE CELL 'sum', in the pinned program and in every row, IS THE sha256 OF THE DUMP (.gsa) THAT YthabpdfbpdokjaaProg.lean LOADS. Nothing in Lean hashes anything: it is a label: what it is worth is what the hold of that sum in a sandbox is worth. -/
noncomputable def Try.pinned : Pinned := { name := "ythabpdfbpdokjaa", sum := "716241a12fca3894df9dd7c159db143dd37d08534d58b67b44a024083e9b66eb", checked := Try.checked }
namespace Rows
def none {H : Type} : Left H := { results := [], args := [] }

/-- 'laws.FnExactTightSites': WHATEVER THE INPUT: true; the input reads as it did. -/
def fnExactTightSitesSpec : ChangeSpec := { name := "fnExactTightSites", fn := fun _ => fun
  | [d1, d2] => { results := [.lit (.bool true)], args := [d1, d2] }
  | _ => none }
def fnExactTightSitesRow : OpenClaim := { program := "ythabpdfbpdokjaa", sum := "716241a12fca3894df9dd7c159db143dd37d08534d58b67b44a024083e9b66eb", func := "loop.example/g01110/laws.FnExactTightSites", spec := "fnExactTightSites", unfollowed := true, recurses := true, apart := false }
def FnExactTightSitesSaid : Prop := fnExactTightSitesRow.holds Try.pinned (OpenSpec.ofChange fnExactTightSitesSpec)

/-- ITS FALSE NEIGHBOUR: 'it returns false'. Refute it at one input. -/
def fnExactTightSitesWrong : ChangeSpec := { name := "fnExactTightSites", fn := fun _ => fun
  | [d1, d2] => { results := [.lit (.bool false)], args := [d1, d2] }
  | _ => none }
def FnExactTightSitesWrongFalsely : Prop := fnExactTightSitesRow.holds Try.pinned (OpenSpec.ofChange fnExactTightSitesWrong)

/-- 'laws.FnExactClosedSites': WHATEVER THE INPUT: true; the input reads as it did. -/
def fnExactClosedSitesSpec : ChangeSpec := { name := "fnExactClosedSites", fn := fun _ => fun
  | [d1, d2, d3] => { results := [.lit (.bool true)], args := [d1, d2, d3] }
  | _ => none }
def fnExactClosedSitesRow : OpenClaim := { program := "ythabpdfbpdokjaa", sum := "716241a12fca3894df9dd7c159db143dd37d08534d58b67b44a024083e9b66eb", func := "loop.example/g01110/laws.FnExactClosedSites", spec := "fnExactClosedSites", unfollowed := true, recurses := true, apart := false }
def FnExactClosedSitesSaid : Prop := fnExactClosedSitesRow.holds Try.pinned (OpenSpec.ofChange fnExactClosedSitesSpec)

/-- ITS FALSE NEIGHBOUR: 'it returns false'. Refute it at one input. -/
def fnExactClosedSitesWrong : ChangeSpec := { name := "fnExactClosedSites", fn := fun _ => fun
  | [d1, d2, d3] => { results := [.lit (.bool false)], args := [d1, d2, d3] }
  | _ => none }
def FnExactClosedSitesWrongFalsely : Prop := fnExactClosedSitesRow.holds Try.pinned (OpenSpec.ofChange fnExactClosedSitesWrong)

/-- 'laws.FnExactClientsWithin': WHATEVER THE INPUT: true; the input reads as it did. -/
def fnExactClientsWithinSpec : ChangeSpec := { name := "fnExactClientsWithin", fn := fun _ => fun
  | [d1, d2, d3] => { results := [.lit (.bool true)], args := [d1, d2, d3] }
  | _ => none }
def fnExactClientsWithinRow : OpenClaim := { program := "ythabpdfbpdokjaa", sum := "716241a12fca3894df9dd7c159db143dd37d08534d58b67b44a024083e9b66eb", func := "loop.example/g01110/laws.FnExactClientsWithin", spec := "fnExactClientsWithin", unfollowed := true, recurses := true, apart := false }
def FnExactClientsWithinSaid : Prop := fnExactClientsWithinRow.holds Try.pinned (OpenSpec.ofChange fnExactClientsWithinSpec)

/-- ITS FALSE NEIGHBOUR: 'it returns false'. Refute it at one input. -/
def fnExactClientsWithinWrong : ChangeSpec := { name := "fnExactClientsWithin", fn := fun _ => fun
  | [d1, d2, d3] => { results := [.lit (.bool false)], args := [d1, d2, d3] }
  | _ => none }
def FnExactClientsWithinWrongFalsely : Prop := fnExactClientsWithinRow.holds Try.pinned (OpenSpec.ofChange fnExactClientsWithinWrong)

/-- 'laws.FnExactBestCentres': WHATEVER THE INPUT: true; the input reads as it did. -/
def fnExactBestCentresSpec : ChangeSpec := { name := "fnExactBestCentres", fn := fun _ => fun
  | [d1, d2] => { results := [.lit (.bool true)], args := [d1, d2] }
  | _ => none }
def fnExactBestCentresRow : OpenClaim := { program := "ythabpdfbpdokjaa", sum := "716241a12fca3894df9dd7c159db143dd37d08534d58b67b44a024083e9b66eb", func := "loop.example/g01110/laws.FnExactBestCentres", spec := "fnExactBestCentres", unfollowed := true, recurses := true, apart := false }
def FnExactBestCentresSaid : Prop := fnExactBestCentresRow.holds Try.pinned (OpenSpec.ofChange fnExactBestCentresSpec)

/-- ITS FALSE NEIGHBOUR: 'it returns false'. Refute it at one input. -/
def fnExactBestCentresWrong : ChangeSpec := { name := "fnExactBestCentres", fn := fun _ => fun
  | [d1, d2] => { results := [.lit (.bool false)], args := [d1, d2] }
  | _ => none }
def FnExactBestCentresWrongFalsely : Prop := fnExactBestCentresRow.holds Try.pinned (OpenSpec.ofChange fnExactBestCentresWrong)

/-- 'laws.FnExactCentreReach': WHATEVER THE INPUT: true; the input reads as it did. -/
def fnExactCentreReachSpec : ChangeSpec := { name := "fnExactCentreReach", fn := fun _ => fun
  | [d1, d2] => { results := [.lit (.bool true)], args := [d1, d2] }
  | _ => none }
def fnExactCentreReachRow : OpenClaim := { program := "ythabpdfbpdokjaa", sum := "716241a12fca3894df9dd7c159db143dd37d08534d58b67b44a024083e9b66eb", func := "loop.example/g01110/laws.FnExactCentreReach", spec := "fnExactCentreReach", unfollowed := true, recurses := true, apart := false }
def FnExactCentreReachSaid : Prop := fnExactCentreReachRow.holds Try.pinned (OpenSpec.ofChange fnExactCentreReachSpec)

/-- ITS FALSE NEIGHBOUR: 'it returns false'. Refute it at one input. -/
def fnExactCentreReachWrong : ChangeSpec := { name := "fnExactCentreReach", fn := fun _ => fun
  | [d1, d2] => { results := [.lit (.bool false)], args := [d1, d2] }
  | _ => none }
def FnExactCentreReachWrongFalsely : Prop := fnExactCentreReachRow.holds Try.pinned (OpenSpec.ofChange fnExactCentreReachWrong)

/-- 'laws.FnExactBestPartial': WHATEVER THE INPUT: true; the input reads as it did. -/
def fnExactBestPartialSpec : ChangeSpec := { name := "fnExactBestPartial", fn := fun _ => fun
  | [d1, d2, d3] => { results := [.lit (.bool true)], args := [d1, d2, d3] }
  | _ => none }
def fnExactBestPartialRow : OpenClaim := { program := "ythabpdfbpdokjaa", sum := "716241a12fca3894df9dd7c159db143dd37d08534d58b67b44a024083e9b66eb", func := "loop.example/g01110/laws.FnExactBestPartial", spec := "fnExactBestPartial", unfollowed := true, recurses := true, apart := false }
def FnExactBestPartialSaid : Prop := fnExactBestPartialRow.holds Try.pinned (OpenSpec.ofChange fnExactBestPartialSpec)

/-- ITS FALSE NEIGHBOUR: 'it returns false'. Refute it at one input. -/
def fnExactBestPartialWrong : ChangeSpec := { name := "fnExactBestPartial", fn := fun _ => fun
  | [d1, d2, d3] => { results := [.lit (.bool false)], args := [d1, d2, d3] }
  | _ => none }
def FnExactBestPartialWrongFalsely : Prop := fnExactBestPartialRow.holds Try.pinned (OpenSpec.ofChange fnExactBestPartialWrong)

/-- 'laws.FnExactReverseMedian': WHATEVER THE INPUT: true; the input reads as it did. -/
def fnExactReverseMedianSpec : ChangeSpec := { name := "fnExactReverseMedian", fn := fun _ => fun
  | [d1, d2] => { results := [.lit (.bool true)], args := [d1, d2] }
  | _ => none }
def fnExactReverseMedianRow : OpenClaim := { program := "ythabpdfbpdokjaa", sum := "716241a12fca3894df9dd7c159db143dd37d08534d58b67b44a024083e9b66eb", func := "loop.example/g01110/laws.FnExactReverseMedian", spec := "fnExactReverseMedian", unfollowed := true, recurses := true, apart := false }
def FnExactReverseMedianSaid : Prop := fnExactReverseMedianRow.holds Try.pinned (OpenSpec.ofChange fnExactReverseMedianSpec)

/-- ITS FALSE NEIGHBOUR: 'it returns false'. Refute it at one input. -/
def fnExactReverseMedianWrong : ChangeSpec := { name := "fnExactReverseMedian", fn := fun _ => fun
  | [d1, d2] => { results := [.lit (.bool false)], args := [d1, d2] }
  | _ => none }
def FnExactReverseMedianWrongFalsely : Prop := fnExactReverseMedianRow.holds Try.pinned (OpenSpec.ofChange fnExactReverseMedianWrong)

/-- 'laws.FnExactGreedyMedian': WHATEVER THE INPUT: true; the input reads as it did. -/
def fnExactGreedyMedianSpec : ChangeSpec := { name := "fnExactGreedyMedian", fn := fun _ => fun
  | [d1, d2] => { results := [.lit (.bool true)], args := [d1, d2] }
  | _ => none }
def fnExactGreedyMedianRow : OpenClaim := { program := "ythabpdfbpdokjaa", sum := "716241a12fca3894df9dd7c159db143dd37d08534d58b67b44a024083e9b66eb", func := "loop.example/g01110/laws.FnExactGreedyMedian", spec := "fnExactGreedyMedian", unfollowed := true, recurses := true, apart := false }
def FnExactGreedyMedianSaid : Prop := fnExactGreedyMedianRow.holds Try.pinned (OpenSpec.ofChange fnExactGreedyMedianSpec)

/-- ITS FALSE NEIGHBOUR: 'it returns false'. Refute it at one input. -/
def fnExactGreedyMedianWrong : ChangeSpec := { name := "fnExactGreedyMedian", fn := fun _ => fun
  | [d1, d2] => { results := [.lit (.bool false)], args := [d1, d2] }
  | _ => none }
def FnExactGreedyMedianWrongFalsely : Prop := fnExactGreedyMedianRow.holds Try.pinned (OpenSpec.ofChange fnExactGreedyMedianWrong)

/- THE SECOND FORM. 'bulk': how many values and letters a reading holds, each counted each time it is reached (what is shared counts as often as it is met; a slice's spare places count too). A statement '..UptoSaid' is the law's where the arguments, and the package variables that the reading takes, are together of bulk at most 1048576: NARROWER than '..Said'. Prove '..Said' where nothing that the law and all that it calls make is longer than what came in: it says more and counts as full. Else prove '..UptoSaid'. A law counts once. -/
mutual
def uptoBulk {H : Type} : DataW H → Nat
  | .lit (.string bytes) => bytes.length + 1
  | .lit _ => 1
  | .nil => 1
  | .ptr d => uptoBulk d + 1
  | .slice elems spare => uptoBulkAll elems + uptoBulkAll spare + 1
  | .agg parts => uptoBulkAll parts + 1
  | .iface _ d => uptoBulk d + 1
  | .map entries => uptoBulkEntries entries + 1
  | .held _ => 1
def uptoBulkAll {H : Type} : List (DataW H) → Nat
  | [] => 0
  | d :: r => uptoBulk d + uptoBulkAll r
def uptoBulkEntries {H : Type} : List (Lit × DataW H) → Nat
  | [] => 0
  | x :: r => uptoBulkEntry x + uptoBulkEntries r
def uptoBulkEntry {H : Type} : Lit × DataW H → Nat
  | (.string bytes, d) => bytes.length + uptoBulk d + 1
  | (_, d) => uptoBulk d + 1
 end
def uptoSmall : (H : Type) → List (DataW H) → Bool := fun _ ds => decide (uptoBulkAll ds ≤ 1048576)
def OpenSpec.upto (s : _root_.Go.ChangeSpec) : _root_.Go.OpenSpec := { _root_.Go.OpenSpec.ofChange s with cond := some uptoSmall }

/-- 'laws.FnExactTightSites', WHERE WHAT IT READS IS OF BULK AT MOST 1048576: true; the input reads as it did. -/
def fnExactTightSitesUptoRow : OpenClaim := { program := "ythabpdfbpdokjaa", sum := "716241a12fca3894df9dd7c159db143dd37d08534d58b67b44a024083e9b66eb", func := "loop.example/g01110/laws.FnExactTightSites", spec := "fnExactTightSites", unfollowed := true, recurses := true, apart := false, narrowed := true }
def FnExactTightSitesUptoSaid : Prop := fnExactTightSitesUptoRow.holds Try.pinned (OpenSpec.upto fnExactTightSitesSpec)

/-- 'laws.FnExactClosedSites', WHERE WHAT IT READS IS OF BULK AT MOST 1048576: true; the input reads as it did. -/
def fnExactClosedSitesUptoRow : OpenClaim := { program := "ythabpdfbpdokjaa", sum := "716241a12fca3894df9dd7c159db143dd37d08534d58b67b44a024083e9b66eb", func := "loop.example/g01110/laws.FnExactClosedSites", spec := "fnExactClosedSites", unfollowed := true, recurses := true, apart := false, narrowed := true }
def FnExactClosedSitesUptoSaid : Prop := fnExactClosedSitesUptoRow.holds Try.pinned (OpenSpec.upto fnExactClosedSitesSpec)

/-- 'laws.FnExactClientsWithin', WHERE WHAT IT READS IS OF BULK AT MOST 1048576: true; the input reads as it did. -/
def fnExactClientsWithinUptoRow : OpenClaim := { program := "ythabpdfbpdokjaa", sum := "716241a12fca3894df9dd7c159db143dd37d08534d58b67b44a024083e9b66eb", func := "loop.example/g01110/laws.FnExactClientsWithin", spec := "fnExactClientsWithin", unfollowed := true, recurses := true, apart := false, narrowed := true }
def FnExactClientsWithinUptoSaid : Prop := fnExactClientsWithinUptoRow.holds Try.pinned (OpenSpec.upto fnExactClientsWithinSpec)

/-- 'laws.FnExactBestCentres', WHERE WHAT IT READS IS OF BULK AT MOST 1048576: true; the input reads as it did. -/
def fnExactBestCentresUptoRow : OpenClaim := { program := "ythabpdfbpdokjaa", sum := "716241a12fca3894df9dd7c159db143dd37d08534d58b67b44a024083e9b66eb", func := "loop.example/g01110/laws.FnExactBestCentres", spec := "fnExactBestCentres", unfollowed := true, recurses := true, apart := false, narrowed := true }
def FnExactBestCentresUptoSaid : Prop := fnExactBestCentresUptoRow.holds Try.pinned (OpenSpec.upto fnExactBestCentresSpec)

/-- 'laws.FnExactCentreReach', WHERE WHAT IT READS IS OF BULK AT MOST 1048576: true; the input reads as it did. -/
def fnExactCentreReachUptoRow : OpenClaim := { program := "ythabpdfbpdokjaa", sum := "716241a12fca3894df9dd7c159db143dd37d08534d58b67b44a024083e9b66eb", func := "loop.example/g01110/laws.FnExactCentreReach", spec := "fnExactCentreReach", unfollowed := true, recurses := true, apart := false, narrowed := true }
def FnExactCentreReachUptoSaid : Prop := fnExactCentreReachUptoRow.holds Try.pinned (OpenSpec.upto fnExactCentreReachSpec)

/-- 'laws.FnExactBestPartial', WHERE WHAT IT READS IS OF BULK AT MOST 1048576: true; the input reads as it did. -/
def fnExactBestPartialUptoRow : OpenClaim := { program := "ythabpdfbpdokjaa", sum := "716241a12fca3894df9dd7c159db143dd37d08534d58b67b44a024083e9b66eb", func := "loop.example/g01110/laws.FnExactBestPartial", spec := "fnExactBestPartial", unfollowed := true, recurses := true, apart := false, narrowed := true }
def FnExactBestPartialUptoSaid : Prop := fnExactBestPartialUptoRow.holds Try.pinned (OpenSpec.upto fnExactBestPartialSpec)

/-- 'laws.FnExactReverseMedian', WHERE WHAT IT READS IS OF BULK AT MOST 1048576: true; the input reads as it did. -/
def fnExactReverseMedianUptoRow : OpenClaim := { program := "ythabpdfbpdokjaa", sum := "716241a12fca3894df9dd7c159db143dd37d08534d58b67b44a024083e9b66eb", func := "loop.example/g01110/laws.FnExactReverseMedian", spec := "fnExactReverseMedian", unfollowed := true, recurses := true, apart := false, narrowed := true }
def FnExactReverseMedianUptoSaid : Prop := fnExactReverseMedianUptoRow.holds Try.pinned (OpenSpec.upto fnExactReverseMedianSpec)

/-- 'laws.FnExactGreedyMedian', WHERE WHAT IT READS IS OF BULK AT MOST 1048576: true; the input reads as it did. -/
def fnExactGreedyMedianUptoRow : OpenClaim := { program := "ythabpdfbpdokjaa", sum := "716241a12fca3894df9dd7c159db143dd37d08534d58b67b44a024083e9b66eb", func := "loop.example/g01110/laws.FnExactGreedyMedian", spec := "fnExactGreedyMedian", unfollowed := true, recurses := true, apart := false, narrowed := true }
def FnExactGreedyMedianUptoSaid : Prop := fnExactGreedyMedianUptoRow.holds Try.pinned (OpenSpec.upto fnExactGreedyMedianSpec)

end Rows
end Go.Proofs.Ythabpdfbpdokjaa
