/-
  No cell of these rows narrows 'for every input' (looked for: loops, veiled, ifaces, maps, wideKeys, modest, calm, conditions, laid).
  DERIVED. THE GIVEN ROWS OF THIS SEAT. 12 by the template 'for every input the law returns true; each argument reads behind the call as it read before'; 0 by the template 'total and deterministic' (their statements: YtkhoojmkoajefaaTotals.lean).
  GIVEN WITH THE SEED: the statements are not yours to turn. If you find one false, say at which input.
  Laid BY PROGRAM, IN A SANDBOX (cutbox-rows.mjs): the forced cells as the released guide's own fill.sh prints them over the translation db4d258b8ac1f9a4… (all of the seat's roots in one cut). By AI agents, Wed Nov 11 2026. No macro, syntax, notation, axiom, sorry.
-/
import Derived.Test.YtkhoojmkoajefaaChecked
import GoSem.Claim
import GoSem.ClaimJoined
import GoSem.ClaimMapViews
import Derived.JoinedTies
import Derived.KernelRfl
namespace Go.Proofs.Ytkhoojmkoajefaa
/- THE CELL 'sum', in the pinned program and in every row, IS THE sha256 OF THE DUMP (.gsa) THAT YtkhoojmkoajefaaProg.lean LOADS. Nothing in Lean hashes anything: it is a label: what it is worth is what the hold of that sum in a sandbox is worth. -/
noncomputable def Try.pinned : Pinned := { name := "ytkhoojmkoajefaa", sum := "db4d258b8ac1f9a49902fd68dc89c4e3ad313c1d1399926791cf6de07f3d6298", checked := Try.checked }
namespace Rows
def none {H : Type} : Left H := { results := [], args := [] }

/-- 'laws.FnExactIsField': WHATEVER THE INPUT: true; the input reads as it did. -/
def fnExactIsFieldSpec : ChangeSpec := { name := "fnExactIsField", fn := fun _ => fun
  | [d] => { results := [.lit (.bool true)], args := [d] }
  | _ => none }
def fnExactIsFieldRow : OpenClaim := { program := "ytkhoojmkoajefaa", sum := "db4d258b8ac1f9a49902fd68dc89c4e3ad313c1d1399926791cf6de07f3d6298", func := "loop.example/g01110/laws.FnExactIsField", spec := "fnExactIsField", unfollowed := true, recurses := true, apart := false }
def FnExactIsFieldSaid : Prop := fnExactIsFieldRow.holds Try.pinned (OpenSpec.ofChange fnExactIsFieldSpec)

/-- ITS FALSE NEIGHBOUR: 'it returns false'. Refute it at one input. -/
def fnExactIsFieldWrong : ChangeSpec := { name := "fnExactIsField", fn := fun _ => fun
  | [d] => { results := [.lit (.bool false)], args := [d] }
  | _ => none }
def FnExactIsFieldWrongFalsely : Prop := fnExactIsFieldRow.holds Try.pinned (OpenSpec.ofChange fnExactIsFieldWrong)

/-- 'laws.FnExactIsMetric': WHATEVER THE INPUT: true; the input reads as it did. -/
def fnExactIsMetricSpec : ChangeSpec := { name := "fnExactIsMetric", fn := fun _ => fun
  | [d] => { results := [.lit (.bool true)], args := [d] }
  | _ => none }
def fnExactIsMetricRow : OpenClaim := { program := "ytkhoojmkoajefaa", sum := "db4d258b8ac1f9a49902fd68dc89c4e3ad313c1d1399926791cf6de07f3d6298", func := "loop.example/g01110/laws.FnExactIsMetric", spec := "fnExactIsMetric", unfollowed := true, recurses := true, apart := false }
def FnExactIsMetricSaid : Prop := fnExactIsMetricRow.holds Try.pinned (OpenSpec.ofChange fnExactIsMetricSpec)

/-- ITS FALSE NEIGHBOUR: 'it returns false'. Refute it at one input. -/
def fnExactIsMetricWrong : ChangeSpec := { name := "fnExactIsMetric", fn := fun _ => fun
  | [d] => { results := [.lit (.bool false)], args := [d] }
  | _ => none }
def FnExactIsMetricWrongFalsely : Prop := fnExactIsMetricRow.holds Try.pinned (OpenSpec.ofChange fnExactIsMetricWrong)

/-- 'laws.FnExactServedBy': WHATEVER THE INPUT: true; the input reads as it did. -/
def fnExactServedBySpec : ChangeSpec := { name := "fnExactServedBy", fn := fun _ => fun
  | [d1, d2] => { results := [.lit (.bool true)], args := [d1, d2] }
  | _ => none }
def fnExactServedByRow : OpenClaim := { program := "ytkhoojmkoajefaa", sum := "db4d258b8ac1f9a49902fd68dc89c4e3ad313c1d1399926791cf6de07f3d6298", func := "loop.example/g01110/laws.FnExactServedBy", spec := "fnExactServedBy", unfollowed := true, recurses := true, apart := false }
def FnExactServedBySaid : Prop := fnExactServedByRow.holds Try.pinned (OpenSpec.ofChange fnExactServedBySpec)

/-- ITS FALSE NEIGHBOUR: 'it returns false'. Refute it at one input. -/
def fnExactServedByWrong : ChangeSpec := { name := "fnExactServedBy", fn := fun _ => fun
  | [d1, d2] => { results := [.lit (.bool false)], args := [d1, d2] }
  | _ => none }
def FnExactServedByWrongFalsely : Prop := fnExactServedByRow.holds Try.pinned (OpenSpec.ofChange fnExactServedByWrong)

/-- 'laws.FnExactServiceOf': WHATEVER THE INPUT: true; the input reads as it did. -/
def fnExactServiceOfSpec : ChangeSpec := { name := "fnExactServiceOf", fn := fun _ => fun
  | [d1, d2] => { results := [.lit (.bool true)], args := [d1, d2] }
  | _ => none }
def fnExactServiceOfRow : OpenClaim := { program := "ytkhoojmkoajefaa", sum := "db4d258b8ac1f9a49902fd68dc89c4e3ad313c1d1399926791cf6de07f3d6298", func := "loop.example/g01110/laws.FnExactServiceOf", spec := "fnExactServiceOf", unfollowed := true, recurses := true, apart := false }
def FnExactServiceOfSaid : Prop := fnExactServiceOfRow.holds Try.pinned (OpenSpec.ofChange fnExactServiceOfSpec)

/-- ITS FALSE NEIGHBOUR: 'it returns false'. Refute it at one input. -/
def fnExactServiceOfWrong : ChangeSpec := { name := "fnExactServiceOf", fn := fun _ => fun
  | [d1, d2] => { results := [.lit (.bool false)], args := [d1, d2] }
  | _ => none }
def FnExactServiceOfWrongFalsely : Prop := fnExactServiceOfRow.holds Try.pinned (OpenSpec.ofChange fnExactServiceOfWrong)

/-- 'laws.FnExactPaymentOf': WHATEVER THE INPUT: true; the input reads as it did. -/
def fnExactPaymentOfSpec : ChangeSpec := { name := "fnExactPaymentOf", fn := fun _ => fun
  | [d1, d2] => { results := [.lit (.bool true)], args := [d1, d2] }
  | _ => none }
def fnExactPaymentOfRow : OpenClaim := { program := "ytkhoojmkoajefaa", sum := "db4d258b8ac1f9a49902fd68dc89c4e3ad313c1d1399926791cf6de07f3d6298", func := "loop.example/g01110/laws.FnExactPaymentOf", spec := "fnExactPaymentOf", unfollowed := true, recurses := true, apart := false }
def FnExactPaymentOfSaid : Prop := fnExactPaymentOfRow.holds Try.pinned (OpenSpec.ofChange fnExactPaymentOfSpec)

/-- ITS FALSE NEIGHBOUR: 'it returns false'. Refute it at one input. -/
def fnExactPaymentOfWrong : ChangeSpec := { name := "fnExactPaymentOf", fn := fun _ => fun
  | [d1, d2] => { results := [.lit (.bool false)], args := [d1, d2] }
  | _ => none }
def FnExactPaymentOfWrongFalsely : Prop := fnExactPaymentOfRow.holds Try.pinned (OpenSpec.ofChange fnExactPaymentOfWrong)

/-- 'laws.FnExactTotalOf': WHATEVER THE INPUT: true; the input reads as it did. -/
def fnExactTotalOfSpec : ChangeSpec := { name := "fnExactTotalOf", fn := fun _ => fun
  | [d1, d2] => { results := [.lit (.bool true)], args := [d1, d2] }
  | _ => none }
def fnExactTotalOfRow : OpenClaim := { program := "ytkhoojmkoajefaa", sum := "db4d258b8ac1f9a49902fd68dc89c4e3ad313c1d1399926791cf6de07f3d6298", func := "loop.example/g01110/laws.FnExactTotalOf", spec := "fnExactTotalOf", unfollowed := true, recurses := true, apart := false }
def FnExactTotalOfSaid : Prop := fnExactTotalOfRow.holds Try.pinned (OpenSpec.ofChange fnExactTotalOfSpec)

/-- ITS FALSE NEIGHBOUR: 'it returns false'. Refute it at one input. -/
def fnExactTotalOfWrong : ChangeSpec := { name := "fnExactTotalOf", fn := fun _ => fun
  | [d1, d2] => { results := [.lit (.bool false)], args := [d1, d2] }
  | _ => none }
def FnExactTotalOfWrongFalsely : Prop := fnExactTotalOfRow.holds Try.pinned (OpenSpec.ofChange fnExactTotalOfWrong)

/-- 'laws.FnExactReachOf': WHATEVER THE INPUT: true; the input reads as it did. -/
def fnExactReachOfSpec : ChangeSpec := { name := "fnExactReachOf", fn := fun _ => fun
  | [d1, d2] => { results := [.lit (.bool true)], args := [d1, d2] }
  | _ => none }
def fnExactReachOfRow : OpenClaim := { program := "ytkhoojmkoajefaa", sum := "db4d258b8ac1f9a49902fd68dc89c4e3ad313c1d1399926791cf6de07f3d6298", func := "loop.example/g01110/laws.FnExactReachOf", spec := "fnExactReachOf", unfollowed := true, recurses := true, apart := false }
def FnExactReachOfSaid : Prop := fnExactReachOfRow.holds Try.pinned (OpenSpec.ofChange fnExactReachOfSpec)

/-- ITS FALSE NEIGHBOUR: 'it returns false'. Refute it at one input. -/
def fnExactReachOfWrong : ChangeSpec := { name := "fnExactReachOf", fn := fun _ => fun
  | [d1, d2] => { results := [.lit (.bool false)], args := [d1, d2] }
  | _ => none }
def FnExactReachOfWrongFalsely : Prop := fnExactReachOfRow.holds Try.pinned (OpenSpec.ofChange fnExactReachOfWrong)

/-- 'laws.FnExactBestSet': WHATEVER THE INPUT: true; the input reads as it did. -/
def fnExactBestSetSpec : ChangeSpec := { name := "fnExactBestSet", fn := fun _ => fun
  | [d] => { results := [.lit (.bool true)], args := [d] }
  | _ => none }
def fnExactBestSetRow : OpenClaim := { program := "ytkhoojmkoajefaa", sum := "db4d258b8ac1f9a49902fd68dc89c4e3ad313c1d1399926791cf6de07f3d6298", func := "loop.example/g01110/laws.FnExactBestSet", spec := "fnExactBestSet", unfollowed := true, recurses := true, apart := false }
def FnExactBestSetSaid : Prop := fnExactBestSetRow.holds Try.pinned (OpenSpec.ofChange fnExactBestSetSpec)

/-- ITS FALSE NEIGHBOUR: 'it returns false'. Refute it at one input. -/
def fnExactBestSetWrong : ChangeSpec := { name := "fnExactBestSet", fn := fun _ => fun
  | [d] => { results := [.lit (.bool false)], args := [d] }
  | _ => none }
def FnExactBestSetWrongFalsely : Prop := fnExactBestSetRow.holds Try.pinned (OpenSpec.ofChange fnExactBestSetWrong)

/-- 'laws.FnExactBestTotal': WHATEVER THE INPUT: true; the input reads as it did. -/
def fnExactBestTotalSpec : ChangeSpec := { name := "fnExactBestTotal", fn := fun _ => fun
  | [d] => { results := [.lit (.bool true)], args := [d] }
  | _ => none }
def fnExactBestTotalRow : OpenClaim := { program := "ytkhoojmkoajefaa", sum := "db4d258b8ac1f9a49902fd68dc89c4e3ad313c1d1399926791cf6de07f3d6298", func := "loop.example/g01110/laws.FnExactBestTotal", spec := "fnExactBestTotal", unfollowed := true, recurses := true, apart := false }
def FnExactBestTotalSaid : Prop := fnExactBestTotalRow.holds Try.pinned (OpenSpec.ofChange fnExactBestTotalSpec)

/-- ITS FALSE NEIGHBOUR: 'it returns false'. Refute it at one input. -/
def fnExactBestTotalWrong : ChangeSpec := { name := "fnExactBestTotal", fn := fun _ => fun
  | [d] => { results := [.lit (.bool false)], args := [d] }
  | _ => none }
def FnExactBestTotalWrongFalsely : Prop := fnExactBestTotalRow.holds Try.pinned (OpenSpec.ofChange fnExactBestTotalWrong)

/-- 'laws.FnExactClientsOf': WHATEVER THE INPUT: true; the input reads as it did. -/
def fnExactClientsOfSpec : ChangeSpec := { name := "fnExactClientsOf", fn := fun _ => fun
  | [d1, d2] => { results := [.lit (.bool true)], args := [d1, d2] }
  | _ => none }
def fnExactClientsOfRow : OpenClaim := { program := "ytkhoojmkoajefaa", sum := "db4d258b8ac1f9a49902fd68dc89c4e3ad313c1d1399926791cf6de07f3d6298", func := "loop.example/g01110/laws.FnExactClientsOf", spec := "fnExactClientsOf", unfollowed := true, recurses := true, apart := false }
def FnExactClientsOfSaid : Prop := fnExactClientsOfRow.holds Try.pinned (OpenSpec.ofChange fnExactClientsOfSpec)

/-- ITS FALSE NEIGHBOUR: 'it returns false'. Refute it at one input. -/
def fnExactClientsOfWrong : ChangeSpec := { name := "fnExactClientsOf", fn := fun _ => fun
  | [d1, d2] => { results := [.lit (.bool false)], args := [d1, d2] }
  | _ => none }
def FnExactClientsOfWrongFalsely : Prop := fnExactClientsOfRow.holds Try.pinned (OpenSpec.ofChange fnExactClientsOfWrong)

/-- 'laws.FnExactIdleSites': WHATEVER THE INPUT: true; the input reads as it did. -/
def fnExactIdleSitesSpec : ChangeSpec := { name := "fnExactIdleSites", fn := fun _ => fun
  | [d1, d2] => { results := [.lit (.bool true)], args := [d1, d2] }
  | _ => none }
def fnExactIdleSitesRow : OpenClaim := { program := "ytkhoojmkoajefaa", sum := "db4d258b8ac1f9a49902fd68dc89c4e3ad313c1d1399926791cf6de07f3d6298", func := "loop.example/g01110/laws.FnExactIdleSites", spec := "fnExactIdleSites", unfollowed := true, recurses := true, apart := false }
def FnExactIdleSitesSaid : Prop := fnExactIdleSitesRow.holds Try.pinned (OpenSpec.ofChange fnExactIdleSitesSpec)

/-- ITS FALSE NEIGHBOUR: 'it returns false'. Refute it at one input. -/
def fnExactIdleSitesWrong : ChangeSpec := { name := "fnExactIdleSites", fn := fun _ => fun
  | [d1, d2] => { results := [.lit (.bool false)], args := [d1, d2] }
  | _ => none }
def FnExactIdleSitesWrongFalsely : Prop := fnExactIdleSitesRow.holds Try.pinned (OpenSpec.ofChange fnExactIdleSitesWrong)

/-- 'laws.FnExactNeededSites': WHATEVER THE INPUT: true; the input reads as it did. -/
def fnExactNeededSitesSpec : ChangeSpec := { name := "fnExactNeededSites", fn := fun _ => fun
  | [d] => { results := [.lit (.bool true)], args := [d] }
  | _ => none }
def fnExactNeededSitesRow : OpenClaim := { program := "ytkhoojmkoajefaa", sum := "db4d258b8ac1f9a49902fd68dc89c4e3ad313c1d1399926791cf6de07f3d6298", func := "loop.example/g01110/laws.FnExactNeededSites", spec := "fnExactNeededSites", unfollowed := true, recurses := true, apart := false }
def FnExactNeededSitesSaid : Prop := fnExactNeededSitesRow.holds Try.pinned (OpenSpec.ofChange fnExactNeededSitesSpec)

/-- ITS FALSE NEIGHBOUR: 'it returns false'. Refute it at one input. -/
def fnExactNeededSitesWrong : ChangeSpec := { name := "fnExactNeededSites", fn := fun _ => fun
  | [d] => { results := [.lit (.bool false)], args := [d] }
  | _ => none }
def FnExactNeededSitesWrongFalsely : Prop := fnExactNeededSitesRow.holds Try.pinned (OpenSpec.ofChange fnExactNeededSitesWrong)

/- THE SECOND FORM. 'bulk': how many values and letters a reading holds, each counted each time it is reached (what is shared counts as often as it is met; a slice's spare places count too). A statement '..UptoSaid' is the law's where the arguments, and the package variables that the reading takes, are together of bulk at most 1048576: NARROWER than '..Said'. Prove '..Said' where nothing that the law and all that it calls make is longer than what came in: it says more and counts as full. Else prove '..UptoSaid'. A law counts once. -/
mutual
def uptoBulk {H : Type} : DataW H → Nat
  | .lit (.string bytes) => bytes.length + 1
  | .lit _ => 1
  | .nil => 1
  | .ptr d => uptoBulk d + 1
  | .slice elems spare => uptoBulkAll elems + uptoBulkAll spare + 1
  | .agg parts => uptoBulkAll parts + 1
  | .iface _ d => uptoBulk d + 1
  | .map entries => uptoBulkEntries entries + 1
  | .held _ => 1
def uptoBulkAll {H : Type} : List (DataW H) → Nat
  | [] => 0
  | d :: r => uptoBulk d + uptoBulkAll r
def uptoBulkEntries {H : Type} : List (Lit × DataW H) → Nat
  | [] => 0
  | x :: r => uptoBulkEntry x + uptoBulkEntries r
def uptoBulkEntry {H : Type} : Lit × DataW H → Nat
  | (.string bytes, d) => bytes.length + uptoBulk d + 1
  | (_, d) => uptoBulk d + 1
 end
def uptoSmall : (H : Type) → List (DataW H) → Bool := fun _ ds => decide (uptoBulkAll ds ≤ 1048576)
def OpenSpec.upto (s : _root_.Go.ChangeSpec) : _root_.Go.OpenSpec := { _root_.Go.OpenSpec.ofChange s with cond := some uptoSmall }

/-- 'laws.FnExactIsField', WHERE WHAT IT READS IS OF BULK AT MOST 1048576: true; the input reads as it did. -/
def fnExactIsFieldUptoRow : OpenClaim := { program := "ytkhoojmkoajefaa", sum := "db4d258b8ac1f9a49902fd68dc89c4e3ad313c1d1399926791cf6de07f3d6298", func := "loop.example/g01110/laws.FnExactIsField", spec := "fnExactIsField", unfollowed := true, recurses := true, apart := false, narrowed := true }
def FnExactIsFieldUptoSaid : Prop := fnExactIsFieldUptoRow.holds Try.pinned (OpenSpec.upto fnExactIsFieldSpec)

/-- 'laws.FnExactIsMetric', WHERE WHAT IT READS IS OF BULK AT MOST 1048576: true; the input reads as it did. -/
def fnExactIsMetricUptoRow : OpenClaim := { program := "ytkhoojmkoajefaa", sum := "db4d258b8ac1f9a49902fd68dc89c4e3ad313c1d1399926791cf6de07f3d6298", func := "loop.example/g01110/laws.FnExactIsMetric", spec := "fnExactIsMetric", unfollowed := true, recurses := true, apart := false, narrowed := true }
def FnExactIsMetricUptoSaid : Prop := fnExactIsMetricUptoRow.holds Try.pinned (OpenSpec.upto fnExactIsMetricSpec)

/-- 'laws.FnExactServedBy', WHERE WHAT IT READS IS OF BULK AT MOST 1048576: true; the input reads as it did. -/
def fnExactServedByUptoRow : OpenClaim := { program := "ytkhoojmkoajefaa", sum := "db4d258b8ac1f9a49902fd68dc89c4e3ad313c1d1399926791cf6de07f3d6298", func := "loop.example/g01110/laws.FnExactServedBy", spec := "fnExactServedBy", unfollowed := true, recurses := true, apart := false, narrowed := true }
def FnExactServedByUptoSaid : Prop := fnExactServedByUptoRow.holds Try.pinned (OpenSpec.upto fnExactServedBySpec)

/-- 'laws.FnExactServiceOf', WHERE WHAT IT READS IS OF BULK AT MOST 1048576: true; the input reads as it did. -/
def fnExactServiceOfUptoRow : OpenClaim := { program := "ytkhoojmkoajefaa", sum := "db4d258b8ac1f9a49902fd68dc89c4e3ad313c1d1399926791cf6de07f3d6298", func := "loop.example/g01110/laws.FnExactServiceOf", spec := "fnExactServiceOf", unfollowed := true, recurses := true, apart := false, narrowed := true }
def FnExactServiceOfUptoSaid : Prop := fnExactServiceOfUptoRow.holds Try.pinned (OpenSpec.upto fnExactServiceOfSpec)

/-- 'laws.FnExactPaymentOf', WHERE WHAT IT READS IS OF BULK AT MOST 1048576: true; the input reads as it did. -/
def fnExactPaymentOfUptoRow : OpenClaim := { program := "ytkhoojmkoajefaa", sum := "db4d258b8ac1f9a49902fd68dc89c4e3ad313c1d1399926791cf6de07f3d6298", func := "loop.example/g01110/laws.FnExactPaymentOf", spec := "fnExactPaymentOf", unfollowed := true, recurses := true, apart := false, narrowed := true }
def FnExactPaymentOfUptoSaid : Prop := fnExactPaymentOfUptoRow.holds Try.pinned (OpenSpec.upto fnExactPaymentOfSpec)

/-- 'laws.FnExactTotalOf', WHERE WHAT IT READS IS OF BULK AT MOST 1048576: true; the input reads as it did. -/
def fnExactTotalOfUptoRow : OpenClaim := { program := "ytkhoojmkoajefaa", sum := "db4d258b8ac1f9a49902fd68dc89c4e3ad313c1d1399926791cf6de07f3d6298", func := "loop.example/g01110/laws.FnExactTotalOf", spec := "fnExactTotalOf", unfollowed := true, recurses := true, apart := false, narrowed := true }
def FnExactTotalOfUptoSaid : Prop := fnExactTotalOfUptoRow.holds Try.pinned (OpenSpec.upto fnExactTotalOfSpec)

/-- 'laws.FnExactReachOf', WHERE WHAT IT READS IS OF BULK AT MOST 1048576: true; the input reads as it did. -/
def fnExactReachOfUptoRow : OpenClaim := { program := "ytkhoojmkoajefaa", sum := "db4d258b8ac1f9a49902fd68dc89c4e3ad313c1d1399926791cf6de07f3d6298", func := "loop.example/g01110/laws.FnExactReachOf", spec := "fnExactReachOf", unfollowed := true, recurses := true, apart := false, narrowed := true }
def FnExactReachOfUptoSaid : Prop := fnExactReachOfUptoRow.holds Try.pinned (OpenSpec.upto fnExactReachOfSpec)

/-- 'laws.FnExactBestSet', WHERE WHAT IT READS IS OF BULK AT MOST 1048576: true; the input reads as it did. -/
def fnExactBestSetUptoRow : OpenClaim := { program := "ytkhoojmkoajefaa", sum := "db4d258b8ac1f9a49902fd68dc89c4e3ad313c1d1399926791cf6de07f3d6298", func := "loop.example/g01110/laws.FnExactBestSet", spec := "fnExactBestSet", unfollowed := true, recurses := true, apart := false, narrowed := true }
def FnExactBestSetUptoSaid : Prop := fnExactBestSetUptoRow.holds Try.pinned (OpenSpec.upto fnExactBestSetSpec)

/-- 'laws.FnExactBestTotal', WHERE WHAT IT READS IS OF BULK AT MOST 1048576: true; the input reads as it did. -/
def fnExactBestTotalUptoRow : OpenClaim := { program := "ytkhoojmkoajefaa", sum := "db4d258b8ac1f9a49902fd68dc89c4e3ad313c1d1399926791cf6de07f3d6298", func := "loop.example/g01110/laws.FnExactBestTotal", spec := "fnExactBestTotal", unfollowed := true, recurses := true, apart := false, narrowed := true }
def FnExactBestTotalUptoSaid : Prop := fnExactBestTotalUptoRow.holds Try.pinned (OpenSpec.upto fnExactBestTotalSpec)

/-- 'laws.FnExactClientsOf', WHERE WHAT IT READS IS OF BULK AT MOST 1048576: true; the input reads as it did. -/
def fnExactClientsOfUptoRow : OpenClaim := { program := "ytkhoojmkoajefaa", sum := "db4d258b8ac1f9a49902fd68dc89c4e3ad313c1d1399926791cf6de07f3d6298", func := "loop.example/g01110/laws.FnExactClientsOf", spec := "fnExactClientsOf", unfollowed := true, recurses := true, apart := false, narrowed := true }
def FnExactClientsOfUptoSaid : Prop := fnExactClientsOfUptoRow.holds Try.pinned (OpenSpec.upto fnExactClientsOfSpec)

/-- 'laws.FnExactIdleSites', WHERE WHAT IT READS IS OF BULK AT MOST 1048576: true; the input reads as it did. -/
def fnExactIdleSitesUptoRow : OpenClaim := { program := "ytkhoojmkoajefaa", sum := "db4d258b8ac1f9a49902fd68dc89c4e3ad313c1d1399926791cf6de07f3d6298", func := "loop.example/g01110/laws.FnExactIdleSites", spec := "fnExactIdleSites", unfollowed := true, recurses := true, apart := false, narrowed := true }
def FnExactIdleSitesUptoSaid : Prop := fnExactIdleSitesUptoRow.holds Try.pinned (OpenSpec.upto fnExactIdleSitesSpec)

/-- 'laws.FnExactNeededSites', WHERE WHAT IT READS IS OF BULK AT MOST 1048576: true; the input reads as it did. -/
def fnExactNeededSitesUptoRow : OpenClaim := { program := "ytkhoojmkoajefaa", sum := "db4d258b8ac1f9a49902fd68dc89c4e3ad313c1d1399926791cf6de07f3d6298", func := "loop.example/g01110/laws.FnExactNeededSites", spec := "fnExactNeededSites", unfollowed := true, recurses := true, apart := false, narrowed := true }
def FnExactNeededSitesUptoSaid : Prop := fnExactNeededSitesUptoRow.holds Try.pinned (OpenSpec.upto fnExactNeededSitesSpec)

end Rows
end Go.Proofs.Ytkhoojmkoajefaa
