/-
  No cell of these rows narrows 'for every input' (looked for: loops, veiled, ifaces, maps, wideKeys, modest, calm, conditions, laid).
  DERIVED. THE GIVEN ROWS OF THIS SEAT. 12 by the template 'for every input the law returns true; each argument reads behind the call as it read before'; 0 by the template 'total and deterministic' (their statements: YtoejfeloademnaaTotals.lean).
  GIVEN WITH THE SEED: the statements are not yours to turn. If you find one false, say at which input.
  Laid BY PROGRAM, IN A SANDBOX (cutbox-rows.mjs): the forced cells as the released guide's own fill.sh prints them over the translation 694f39e361aa36bb… (all of the seat's roots in one cut). By AI agents, Wed Nov 11 2026. No macro, syntax, notation, axiom, sorry.
-/
import Derived.Test.YtoejfeloademnaaChecked
import GoSem.Claim
import GoSem.ClaimJoined
import GoSem.ClaimMapViews
import Derived.JoinedTies
import Derived.KernelRfl
namespace Go.Proofs.Ytoejfeloademnaa
/- THE CELL 'sum', in the pinned program and in every row, IS THE sha256 OF THE DUMP (.gsa) THAT YtoejfeloademnaaProg.lean LOADS. Nothing in Lean hashes anything: it is a label: what it is worth is what the hold of that sum in a sandbox is worth. -/
noncomputable def Try.pinned : Pinned := { name := "ytoejfeloademnaa", sum := "694f39e361aa36bb1a14027303dbd840b497a4bb3fc26deb3d333434d54508f8", checked := Try.checked }
namespace Rows
def none {H : Type} : Left H := { results := [], args := [] }

/-- 'laws.FnExactSwapSites': WHATEVER THE INPUT: true; the input reads as it did. -/
def fnExactSwapSitesSpec : ChangeSpec := { name := "fnExactSwapSites", fn := fun _ => fun
  | [d1, d2, d3, d4] => { results := [.lit (.bool true)], args := [d1, d2, d3, d4] }
  | _ => none }
def fnExactSwapSitesRow : OpenClaim := { program := "ytoejfeloademnaa", sum := "694f39e361aa36bb1a14027303dbd840b497a4bb3fc26deb3d333434d54508f8", func := "loop.example/g01110/laws.FnExactSwapSites", spec := "fnExactSwapSites", unfollowed := true, recurses := true, apart := false }
def FnExactSwapSitesSaid : Prop := fnExactSwapSitesRow.holds Try.pinned (OpenSpec.ofChange fnExactSwapSitesSpec)

/-- ITS FALSE NEIGHBOUR: 'it returns false'. Refute it at one input. -/
def fnExactSwapSitesWrong : ChangeSpec := { name := "fnExactSwapSites", fn := fun _ => fun
  | [d1, d2, d3, d4] => { results := [.lit (.bool false)], args := [d1, d2, d3, d4] }
  | _ => none }
def FnExactSwapSitesWrongFalsely : Prop := fnExactSwapSitesRow.holds Try.pinned (OpenSpec.ofChange fnExactSwapSitesWrong)

/-- 'laws.FnExactClosePath': WHATEVER THE INPUT: true; the input reads as it did. -/
def fnExactClosePathSpec : ChangeSpec := { name := "fnExactClosePath", fn := fun _ => fun
  | [d] => { results := [.lit (.bool true)], args := [d] }
  | _ => none }
def fnExactClosePathRow : OpenClaim := { program := "ytoejfeloademnaa", sum := "694f39e361aa36bb1a14027303dbd840b497a4bb3fc26deb3d333434d54508f8", func := "loop.example/g01110/laws.FnExactClosePath", spec := "fnExactClosePath", unfollowed := true, recurses := true, apart := false }
def FnExactClosePathSaid : Prop := fnExactClosePathRow.holds Try.pinned (OpenSpec.ofChange fnExactClosePathSpec)

/-- ITS FALSE NEIGHBOUR: 'it returns false'. Refute it at one input. -/
def fnExactClosePathWrong : ChangeSpec := { name := "fnExactClosePath", fn := fun _ => fun
  | [d] => { results := [.lit (.bool false)], args := [d] }
  | _ => none }
def FnExactClosePathWrongFalsely : Prop := fnExactClosePathRow.holds Try.pinned (OpenSpec.ofChange fnExactClosePathWrong)

/-- 'laws.FnExactJoinFields': WHATEVER THE INPUT: true; the input reads as it did. -/
def fnExactJoinFieldsSpec : ChangeSpec := { name := "fnExactJoinFields", fn := fun _ => fun
  | [d1, d2] => { results := [.lit (.bool true)], args := [d1, d2] }
  | _ => none }
def fnExactJoinFieldsRow : OpenClaim := { program := "ytoejfeloademnaa", sum := "694f39e361aa36bb1a14027303dbd840b497a4bb3fc26deb3d333434d54508f8", func := "loop.example/g01110/laws.FnExactJoinFields", spec := "fnExactJoinFields", unfollowed := true, recurses := true, apart := false }
def FnExactJoinFieldsSaid : Prop := fnExactJoinFieldsRow.holds Try.pinned (OpenSpec.ofChange fnExactJoinFieldsSpec)

/-- ITS FALSE NEIGHBOUR: 'it returns false'. Refute it at one input. -/
def fnExactJoinFieldsWrong : ChangeSpec := { name := "fnExactJoinFields", fn := fun _ => fun
  | [d1, d2] => { results := [.lit (.bool false)], args := [d1, d2] }
  | _ => none }
def FnExactJoinFieldsWrongFalsely : Prop := fnExactJoinFieldsRow.holds Try.pinned (OpenSpec.ofChange fnExactJoinFieldsWrong)

/-- 'laws.FnExactScaleField': WHATEVER THE INPUT: true; the input reads as it did. -/
def fnExactScaleFieldSpec : ChangeSpec := { name := "fnExactScaleField", fn := fun _ => fun
  | [d1, d2] => { results := [.lit (.bool true)], args := [d1, d2] }
  | _ => none }
def fnExactScaleFieldRow : OpenClaim := { program := "ytoejfeloademnaa", sum := "694f39e361aa36bb1a14027303dbd840b497a4bb3fc26deb3d333434d54508f8", func := "loop.example/g01110/laws.FnExactScaleField", spec := "fnExactScaleField", unfollowed := true, recurses := true, apart := false }
def FnExactScaleFieldSaid : Prop := fnExactScaleFieldRow.holds Try.pinned (OpenSpec.ofChange fnExactScaleFieldSpec)

/-- ITS FALSE NEIGHBOUR: 'it returns false'. Refute it at one input. -/
def fnExactScaleFieldWrong : ChangeSpec := { name := "fnExactScaleField", fn := fun _ => fun
  | [d1, d2] => { results := [.lit (.bool false)], args := [d1, d2] }
  | _ => none }
def FnExactScaleFieldWrongFalsely : Prop := fnExactScaleFieldRow.holds Try.pinned (OpenSpec.ofChange fnExactScaleFieldWrong)

/-- 'laws.FnExactBestSet': WHATEVER THE INPUT: true; the input reads as it did. -/
def fnExactBestSetSpec : ChangeSpec := { name := "fnExactBestSet", fn := fun _ => fun
  | [d] => { results := [.lit (.bool true)], args := [d] }
  | _ => none }
def fnExactBestSetRow : OpenClaim := { program := "ytoejfeloademnaa", sum := "694f39e361aa36bb1a14027303dbd840b497a4bb3fc26deb3d333434d54508f8", func := "loop.example/g01110/laws.FnExactBestSet", spec := "fnExactBestSet", unfollowed := true, recurses := true, apart := false }
def FnExactBestSetSaid : Prop := fnExactBestSetRow.holds Try.pinned (OpenSpec.ofChange fnExactBestSetSpec)

/-- ITS FALSE NEIGHBOUR: 'it returns false'. Refute it at one input. -/
def fnExactBestSetWrong : ChangeSpec := { name := "fnExactBestSet", fn := fun _ => fun
  | [d] => { results := [.lit (.bool false)], args := [d] }
  | _ => none }
def FnExactBestSetWrongFalsely : Prop := fnExactBestSetRow.holds Try.pinned (OpenSpec.ofChange fnExactBestSetWrong)

/-- 'laws.FnExactBestTotal': WHATEVER THE INPUT: true; the input reads as it did. -/
def fnExactBestTotalSpec : ChangeSpec := { name := "fnExactBestTotal", fn := fun _ => fun
  | [d] => { results := [.lit (.bool true)], args := [d] }
  | _ => none }
def fnExactBestTotalRow : OpenClaim := { program := "ytoejfeloademnaa", sum := "694f39e361aa36bb1a14027303dbd840b497a4bb3fc26deb3d333434d54508f8", func := "loop.example/g01110/laws.FnExactBestTotal", spec := "fnExactBestTotal", unfollowed := true, recurses := true, apart := false }
def FnExactBestTotalSaid : Prop := fnExactBestTotalRow.holds Try.pinned (OpenSpec.ofChange fnExactBestTotalSpec)

/-- ITS FALSE NEIGHBOUR: 'it returns false'. Refute it at one input. -/
def fnExactBestTotalWrong : ChangeSpec := { name := "fnExactBestTotal", fn := fun _ => fun
  | [d] => { results := [.lit (.bool false)], args := [d] }
  | _ => none }
def FnExactBestTotalWrongFalsely : Prop := fnExactBestTotalRow.holds Try.pinned (OpenSpec.ofChange fnExactBestTotalWrong)

/-- 'laws.FnExactClaimsOf': WHATEVER THE INPUT: true; the input reads as it did. -/
def fnExactClaimsOfSpec : ChangeSpec := { name := "fnExactClaimsOf", fn := fun _ => fun
  | [d1, d2] => { results := [.lit (.bool true)], args := [d1, d2] }
  | _ => none }
def fnExactClaimsOfRow : OpenClaim := { program := "ytoejfeloademnaa", sum := "694f39e361aa36bb1a14027303dbd840b497a4bb3fc26deb3d333434d54508f8", func := "loop.example/g01110/laws.FnExactClaimsOf", spec := "fnExactClaimsOf", unfollowed := true, recurses := true, apart := false }
def FnExactClaimsOfSaid : Prop := fnExactClaimsOfRow.holds Try.pinned (OpenSpec.ofChange fnExactClaimsOfSpec)

/-- ITS FALSE NEIGHBOUR: 'it returns false'. Refute it at one input. -/
def fnExactClaimsOfWrong : ChangeSpec := { name := "fnExactClaimsOf", fn := fun _ => fun
  | [d1, d2] => { results := [.lit (.bool false)], args := [d1, d2] }
  | _ => none }
def FnExactClaimsOfWrongFalsely : Prop := fnExactClaimsOfRow.holds Try.pinned (OpenSpec.ofChange fnExactClaimsOfWrong)

/-- 'laws.FnExactAreFair': WHATEVER THE INPUT: true; the input reads as it did. -/
def fnExactAreFairSpec : ChangeSpec := { name := "fnExactAreFair", fn := fun _ => fun
  | [d1, d2] => { results := [.lit (.bool true)], args := [d1, d2] }
  | _ => none }
def fnExactAreFairRow : OpenClaim := { program := "ytoejfeloademnaa", sum := "694f39e361aa36bb1a14027303dbd840b497a4bb3fc26deb3d333434d54508f8", func := "loop.example/g01110/laws.FnExactAreFair", spec := "fnExactAreFair", unfollowed := true, recurses := true, apart := false }
def FnExactAreFairSaid : Prop := fnExactAreFairRow.holds Try.pinned (OpenSpec.ofChange fnExactAreFairSpec)

/-- ITS FALSE NEIGHBOUR: 'it returns false'. Refute it at one input. -/
def fnExactAreFairWrong : ChangeSpec := { name := "fnExactAreFair", fn := fun _ => fun
  | [d1, d2] => { results := [.lit (.bool false)], args := [d1, d2] }
  | _ => none }
def FnExactAreFairWrongFalsely : Prop := fnExactAreFairRow.holds Try.pinned (OpenSpec.ofChange fnExactAreFairWrong)

/-- 'laws.FnExactTightSites': WHATEVER THE INPUT: true; the input reads as it did. -/
def fnExactTightSitesSpec : ChangeSpec := { name := "fnExactTightSites", fn := fun _ => fun
  | [d1, d2] => { results := [.lit (.bool true)], args := [d1, d2] }
  | _ => none }
def fnExactTightSitesRow : OpenClaim := { program := "ytoejfeloademnaa", sum := "694f39e361aa36bb1a14027303dbd840b497a4bb3fc26deb3d333434d54508f8", func := "loop.example/g01110/laws.FnExactTightSites", spec := "fnExactTightSites", unfollowed := true, recurses := true, apart := false }
def FnExactTightSitesSaid : Prop := fnExactTightSitesRow.holds Try.pinned (OpenSpec.ofChange fnExactTightSitesSpec)

/-- ITS FALSE NEIGHBOUR: 'it returns false'. Refute it at one input. -/
def fnExactTightSitesWrong : ChangeSpec := { name := "fnExactTightSites", fn := fun _ => fun
  | [d1, d2] => { results := [.lit (.bool false)], args := [d1, d2] }
  | _ => none }
def FnExactTightSitesWrongFalsely : Prop := fnExactTightSitesRow.holds Try.pinned (OpenSpec.ofChange fnExactTightSitesWrong)

/-- 'laws.FnExactPriceGap': WHATEVER THE INPUT: true; the input reads as it did. -/
def fnExactPriceGapSpec : ChangeSpec := { name := "fnExactPriceGap", fn := fun _ => fun
  | [d1, d2, d3] => { results := [.lit (.bool true)], args := [d1, d2, d3] }
  | _ => none }
def fnExactPriceGapRow : OpenClaim := { program := "ytoejfeloademnaa", sum := "694f39e361aa36bb1a14027303dbd840b497a4bb3fc26deb3d333434d54508f8", func := "loop.example/g01110/laws.FnExactPriceGap", spec := "fnExactPriceGap", unfollowed := true, recurses := true, apart := false }
def FnExactPriceGapSaid : Prop := fnExactPriceGapRow.holds Try.pinned (OpenSpec.ofChange fnExactPriceGapSpec)

/-- ITS FALSE NEIGHBOUR: 'it returns false'. Refute it at one input. -/
def fnExactPriceGapWrong : ChangeSpec := { name := "fnExactPriceGap", fn := fun _ => fun
  | [d1, d2, d3] => { results := [.lit (.bool false)], args := [d1, d2, d3] }
  | _ => none }
def FnExactPriceGapWrongFalsely : Prop := fnExactPriceGapRow.holds Try.pinned (OpenSpec.ofChange fnExactPriceGapWrong)

/-- 'laws.FnExactRestCosts': WHATEVER THE INPUT: true; the input reads as it did. -/
def fnExactRestCostsSpec : ChangeSpec := { name := "fnExactRestCosts", fn := fun _ => fun
  | [d1, d2] => { results := [.lit (.bool true)], args := [d1, d2] }
  | _ => none }
def fnExactRestCostsRow : OpenClaim := { program := "ytoejfeloademnaa", sum := "694f39e361aa36bb1a14027303dbd840b497a4bb3fc26deb3d333434d54508f8", func := "loop.example/g01110/laws.FnExactRestCosts", spec := "fnExactRestCosts", unfollowed := true, recurses := true, apart := false }
def FnExactRestCostsSaid : Prop := fnExactRestCostsRow.holds Try.pinned (OpenSpec.ofChange fnExactRestCostsSpec)

/-- ITS FALSE NEIGHBOUR: 'it returns false'. Refute it at one input. -/
def fnExactRestCostsWrong : ChangeSpec := { name := "fnExactRestCosts", fn := fun _ => fun
  | [d1, d2] => { results := [.lit (.bool false)], args := [d1, d2] }
  | _ => none }
def FnExactRestCostsWrongFalsely : Prop := fnExactRestCostsRow.holds Try.pinned (OpenSpec.ofChange fnExactRestCostsWrong)

/-- 'laws.FnExactClosedSites': WHATEVER THE INPUT: true; the input reads as it did. -/
def fnExactClosedSitesSpec : ChangeSpec := { name := "fnExactClosedSites", fn := fun _ => fun
  | [d1, d2, d3] => { results := [.lit (.bool true)], args := [d1, d2, d3] }
  | _ => none }
def fnExactClosedSitesRow : OpenClaim := { program := "ytoejfeloademnaa", sum := "694f39e361aa36bb1a14027303dbd840b497a4bb3fc26deb3d333434d54508f8", func := "loop.example/g01110/laws.FnExactClosedSites", spec := "fnExactClosedSites", unfollowed := true, recurses := true, apart := false }
def FnExactClosedSitesSaid : Prop := fnExactClosedSitesRow.holds Try.pinned (OpenSpec.ofChange fnExactClosedSitesSpec)

/-- ITS FALSE NEIGHBOUR: 'it returns false'. Refute it at one input. -/
def fnExactClosedSitesWrong : ChangeSpec := { name := "fnExactClosedSites", fn := fun _ => fun
  | [d1, d2, d3] => { results := [.lit (.bool false)], args := [d1, d2, d3] }
  | _ => none }
def FnExactClosedSitesWrongFalsely : Prop := fnExactClosedSitesRow.holds Try.pinned (OpenSpec.ofChange fnExactClosedSitesWrong)

/- THE SECOND FORM. 'bulk': how many values and letters a reading holds, each counted each time it is reached (what is shared counts as often as it is met; a slice's spare places count too). A statement '..UptoSaid' is the law's where the arguments, and the package variables that the reading takes, are together of bulk at most 1048576: NARROWER than '..Said'. Prove '..Said' where nothing that the law and all that it calls make is longer than what came in: it says more and counts as full. Else prove '..UptoSaid'. A law counts once. -/
mutual
def uptoBulk {H : Type} : DataW H → Nat
  | .lit (.string bytes) => bytes.length + 1
  | .lit _ => 1
  | .nil => 1
  | .ptr d => uptoBulk d + 1
  | .slice elems spare => uptoBulkAll elems + uptoBulkAll spare + 1
  | .agg parts => uptoBulkAll parts + 1
  | .iface _ d => uptoBulk d + 1
  | .map entries => uptoBulkEntries entries + 1
  | .held _ => 1
def uptoBulkAll {H : Type} : List (DataW H) → Nat
  | [] => 0
  | d :: r => uptoBulk d + uptoBulkAll r
def uptoBulkEntries {H : Type} : List (Lit × DataW H) → Nat
  | [] => 0
  | x :: r => uptoBulkEntry x + uptoBulkEntries r
def uptoBulkEntry {H : Type} : Lit × DataW H → Nat
  | (.string bytes, d) => bytes.length + uptoBulk d + 1
  | (_, d) => uptoBulk d + 1
 end
def uptoSmall : (H : Type) → List (DataW H) → Bool := fun _ ds => decide (uptoBulkAll ds ≤ 1048576)
def OpenSpec.upto (s : _root_.Go.ChangeSpec) : _root_.Go.OpenSpec := { _root_.Go.OpenSpec.ofChange s with cond := some uptoSmall }

/-- 'laws.FnExactSwapSites', WHERE WHAT IT READS IS OF BULK AT MOST 1048576: true; the input reads as it did. -/
def fnExactSwapSitesUptoRow : OpenClaim := { program := "ytoejfeloademnaa", sum := "694f39e361aa36bb1a14027303dbd840b497a4bb3fc26deb3d333434d54508f8", func := "loop.example/g01110/laws.FnExactSwapSites", spec := "fnExactSwapSites", unfollowed := true, recurses := true, apart := false, narrowed := true }
def FnExactSwapSitesUptoSaid : Prop := fnExactSwapSitesUptoRow.holds Try.pinned (OpenSpec.upto fnExactSwapSitesSpec)

/-- 'laws.FnExactClosePath', WHERE WHAT IT READS IS OF BULK AT MOST 1048576: true; the input reads as it did. -/
def fnExactClosePathUptoRow : OpenClaim := { program := "ytoejfeloademnaa", sum := "694f39e361aa36bb1a14027303dbd840b497a4bb3fc26deb3d333434d54508f8", func := "loop.example/g01110/laws.FnExactClosePath", spec := "fnExactClosePath", unfollowed := true, recurses := true, apart := false, narrowed := true }
def FnExactClosePathUptoSaid : Prop := fnExactClosePathUptoRow.holds Try.pinned (OpenSpec.upto fnExactClosePathSpec)

/-- 'laws.FnExactJoinFields', WHERE WHAT IT READS IS OF BULK AT MOST 1048576: true; the input reads as it did. -/
def fnExactJoinFieldsUptoRow : OpenClaim := { program := "ytoejfeloademnaa", sum := "694f39e361aa36bb1a14027303dbd840b497a4bb3fc26deb3d333434d54508f8", func := "loop.example/g01110/laws.FnExactJoinFields", spec := "fnExactJoinFields", unfollowed := true, recurses := true, apart := false, narrowed := true }
def FnExactJoinFieldsUptoSaid : Prop := fnExactJoinFieldsUptoRow.holds Try.pinned (OpenSpec.upto fnExactJoinFieldsSpec)

/-- 'laws.FnExactScaleField', WHERE WHAT IT READS IS OF BULK AT MOST 1048576: true; the input reads as it did. -/
def fnExactScaleFieldUptoRow : OpenClaim := { program := "ytoejfeloademnaa", sum := "694f39e361aa36bb1a14027303dbd840b497a4bb3fc26deb3d333434d54508f8", func := "loop.example/g01110/laws.FnExactScaleField", spec := "fnExactScaleField", unfollowed := true, recurses := true, apart := false, narrowed := true }
def FnExactScaleFieldUptoSaid : Prop := fnExactScaleFieldUptoRow.holds Try.pinned (OpenSpec.upto fnExactScaleFieldSpec)

/-- 'laws.FnExactBestSet', WHERE WHAT IT READS IS OF BULK AT MOST 1048576: true; the input reads as it did. -/
def fnExactBestSetUptoRow : OpenClaim := { program := "ytoejfeloademnaa", sum := "694f39e361aa36bb1a14027303dbd840b497a4bb3fc26deb3d333434d54508f8", func := "loop.example/g01110/laws.FnExactBestSet", spec := "fnExactBestSet", unfollowed := true, recurses := true, apart := false, narrowed := true }
def FnExactBestSetUptoSaid : Prop := fnExactBestSetUptoRow.holds Try.pinned (OpenSpec.upto fnExactBestSetSpec)

/-- 'laws.FnExactBestTotal', WHERE WHAT IT READS IS OF BULK AT MOST 1048576: true; the input reads as it did. -/
def fnExactBestTotalUptoRow : OpenClaim := { program := "ytoejfeloademnaa", sum := "694f39e361aa36bb1a14027303dbd840b497a4bb3fc26deb3d333434d54508f8", func := "loop.example/g01110/laws.FnExactBestTotal", spec := "fnExactBestTotal", unfollowed := true, recurses := true, apart := false, narrowed := true }
def FnExactBestTotalUptoSaid : Prop := fnExactBestTotalUptoRow.holds Try.pinned (OpenSpec.upto fnExactBestTotalSpec)

/-- 'laws.FnExactClaimsOf', WHERE WHAT IT READS IS OF BULK AT MOST 1048576: true; the input reads as it did. -/
def fnExactClaimsOfUptoRow : OpenClaim := { program := "ytoejfeloademnaa", sum := "694f39e361aa36bb1a14027303dbd840b497a4bb3fc26deb3d333434d54508f8", func := "loop.example/g01110/laws.FnExactClaimsOf", spec := "fnExactClaimsOf", unfollowed := true, recurses := true, apart := false, narrowed := true }
def FnExactClaimsOfUptoSaid : Prop := fnExactClaimsOfUptoRow.holds Try.pinned (OpenSpec.upto fnExactClaimsOfSpec)

/-- 'laws.FnExactAreFair', WHERE WHAT IT READS IS OF BULK AT MOST 1048576: true; the input reads as it did. -/
def fnExactAreFairUptoRow : OpenClaim := { program := "ytoejfeloademnaa", sum := "694f39e361aa36bb1a14027303dbd840b497a4bb3fc26deb3d333434d54508f8", func := "loop.example/g01110/laws.FnExactAreFair", spec := "fnExactAreFair", unfollowed := true, recurses := true, apart := false, narrowed := true }
def FnExactAreFairUptoSaid : Prop := fnExactAreFairUptoRow.holds Try.pinned (OpenSpec.upto fnExactAreFairSpec)

/-- 'laws.FnExactTightSites', WHERE WHAT IT READS IS OF BULK AT MOST 1048576: true; the input reads as it did. -/
def fnExactTightSitesUptoRow : OpenClaim := { program := "ytoejfeloademnaa", sum := "694f39e361aa36bb1a14027303dbd840b497a4bb3fc26deb3d333434d54508f8", func := "loop.example/g01110/laws.FnExactTightSites", spec := "fnExactTightSites", unfollowed := true, recurses := true, apart := false, narrowed := true }
def FnExactTightSitesUptoSaid : Prop := fnExactTightSitesUptoRow.holds Try.pinned (OpenSpec.upto fnExactTightSitesSpec)

/-- 'laws.FnExactPriceGap', WHERE WHAT IT READS IS OF BULK AT MOST 1048576: true; the input reads as it did. -/
def fnExactPriceGapUptoRow : OpenClaim := { program := "ytoejfeloademnaa", sum := "694f39e361aa36bb1a14027303dbd840b497a4bb3fc26deb3d333434d54508f8", func := "loop.example/g01110/laws.FnExactPriceGap", spec := "fnExactPriceGap", unfollowed := true, recurses := true, apart := false, narrowed := true }
def FnExactPriceGapUptoSaid : Prop := fnExactPriceGapUptoRow.holds Try.pinned (OpenSpec.upto fnExactPriceGapSpec)

/-- 'laws.FnExactRestCosts', WHERE WHAT IT READS IS OF BULK AT MOST 1048576: true; the input reads as it did. -/
def fnExactRestCostsUptoRow : OpenClaim := { program := "ytoejfeloademnaa", sum := "694f39e361aa36bb1a14027303dbd840b497a4bb3fc26deb3d333434d54508f8", func := "loop.example/g01110/laws.FnExactRestCosts", spec := "fnExactRestCosts", unfollowed := true, recurses := true, apart := false, narrowed := true }
def FnExactRestCostsUptoSaid : Prop := fnExactRestCostsUptoRow.holds Try.pinned (OpenSpec.upto fnExactRestCostsSpec)

/-- 'laws.FnExactClosedSites', WHERE WHAT IT READS IS OF BULK AT MOST 1048576: true; the input reads as it did. -/
def fnExactClosedSitesUptoRow : OpenClaim := { program := "ytoejfeloademnaa", sum := "694f39e361aa36bb1a14027303dbd840b497a4bb3fc26deb3d333434d54508f8", func := "loop.example/g01110/laws.FnExactClosedSites", spec := "fnExactClosedSites", unfollowed := true, recurses := true, apart := false, narrowed := true }
def FnExactClosedSitesUptoSaid : Prop := fnExactClosedSitesUptoRow.holds Try.pinned (OpenSpec.upto fnExactClosedSitesSpec)

end Rows
end Go.Proofs.Ytoejfeloademnaa
