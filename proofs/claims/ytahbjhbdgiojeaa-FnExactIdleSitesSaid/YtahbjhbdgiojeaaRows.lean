/-
  No cell of these rows narrows 'for every input' (looked for: loops, veiled, ifaces, maps, wideKeys, modest, calm, conditions, laid).
  DERIVED. THE GIVEN ROWS OF THIS SEAT. 9 by the template 'for every input the law returns true; each argument reads behind the call as it read before'; 0 by the template 'total and deterministic' (their statements: YtahbjhbdgiojeaaTotals.lean).
  GIVEN WITH THE SEED: the statements are not yours to turn. If you find one false, say at which input.
  Laid BY PROGRAM, IN A SANDBOX (cutbox-rows.mjs): the forced cells as the released guide's own fill.sh prints them over the translation 7ec256cf65c73226… (all of the seat's roots in one cut). By AI agents, Wed Nov 11 2026. No macro, syntax, notation, axiom, sorry.
-/
import Derived.Test.YtahbjhbdgiojeaaChecked
import GoSem.Claim
import GoSem.ClaimJoined
import GoSem.ClaimMapViews
import Derived.JoinedTies
import Derived.KernelRfl
namespace Go.Proofs.Ytahbjhbdgiojeaa
/- THE CELL 'sum', in the pinned program and in every row, IS THE sha256 OF THE DUMP (.gsa) THAT YtahbjhbdgiojeaaProg.lean LOADS. Nothing in Lean hashes anything: it is a label: what it is worth is what the hold of that sum in a sandbox is worth. -/
noncomputable def Try.pinned : Pinned := { name := "ytahbjhbdgiojeaa", sum := "7ec256cf65c73226e585f69fcaf0ae3358c4e11e232eec20756ac9fca2057883", checked := Try.checked }
namespace Rows
def none {H : Type} : Left H := { results := [], args := [] }

/-- 'laws.FnExactServedBy': WHATEVER THE INPUT: true; the input reads as it did. -/
def fnExactServedBySpec : ChangeSpec := { name := "fnExactServedBy", fn := fun _ => fun
  | [d1, d2] => { results := [.lit (.bool true)], args := [d1, d2] }
  | _ => none }
def fnExactServedByRow : OpenClaim := { program := "ytahbjhbdgiojeaa", sum := "7ec256cf65c73226e585f69fcaf0ae3358c4e11e232eec20756ac9fca2057883", func := "loop.example/g01110/laws.FnExactServedBy", spec := "fnExactServedBy", unfollowed := true, recurses := true, apart := false }
def FnExactServedBySaid : Prop := fnExactServedByRow.holds Try.pinned (OpenSpec.ofChange fnExactServedBySpec)

/-- ITS FALSE NEIGHBOUR: 'it returns false'. Refute it at one input. -/
def fnExactServedByWrong : ChangeSpec := { name := "fnExactServedBy", fn := fun _ => fun
  | [d1, d2] => { results := [.lit (.bool false)], args := [d1, d2] }
  | _ => none }
def FnExactServedByWrongFalsely : Prop := fnExactServedByRow.holds Try.pinned (OpenSpec.ofChange fnExactServedByWrong)

/-- 'laws.FnExactPaymentOf': WHATEVER THE INPUT: true; the input reads as it did. -/
def fnExactPaymentOfSpec : ChangeSpec := { name := "fnExactPaymentOf", fn := fun _ => fun
  | [d1, d2] => { results := [.lit (.bool true)], args := [d1, d2] }
  | _ => none }
def fnExactPaymentOfRow : OpenClaim := { program := "ytahbjhbdgiojeaa", sum := "7ec256cf65c73226e585f69fcaf0ae3358c4e11e232eec20756ac9fca2057883", func := "loop.example/g01110/laws.FnExactPaymentOf", spec := "fnExactPaymentOf", unfollowed := true, recurses := true, apart := false }
def FnExactPaymentOfSaid : Prop := fnExactPaymentOfRow.holds Try.pinned (OpenSpec.ofChange fnExactPaymentOfSpec)

/-- ITS FALSE NEIGHBOUR: 'it returns false'. Refute it at one input. -/
def fnExactPaymentOfWrong : ChangeSpec := { name := "fnExactPaymentOf", fn := fun _ => fun
  | [d1, d2] => { results := [.lit (.bool false)], args := [d1, d2] }
  | _ => none }
def FnExactPaymentOfWrongFalsely : Prop := fnExactPaymentOfRow.holds Try.pinned (OpenSpec.ofChange fnExactPaymentOfWrong)

/-- 'laws.FnExactTotalOf': WHATEVER THE INPUT: true; the input reads as it did. -/
def fnExactTotalOfSpec : ChangeSpec := { name := "fnExactTotalOf", fn := fun _ => fun
  | [d1, d2] => { results := [.lit (.bool true)], args := [d1, d2] }
  | _ => none }
def fnExactTotalOfRow : OpenClaim := { program := "ytahbjhbdgiojeaa", sum := "7ec256cf65c73226e585f69fcaf0ae3358c4e11e232eec20756ac9fca2057883", func := "loop.example/g01110/laws.FnExactTotalOf", spec := "fnExactTotalOf", unfollowed := true, recurses := true, apart := false }
def FnExactTotalOfSaid : Prop := fnExactTotalOfRow.holds Try.pinned (OpenSpec.ofChange fnExactTotalOfSpec)

/-- ITS FALSE NEIGHBOUR: 'it returns false'. Refute it at one input. -/
def fnExactTotalOfWrong : ChangeSpec := { name := "fnExactTotalOf", fn := fun _ => fun
  | [d1, d2] => { results := [.lit (.bool false)], args := [d1, d2] }
  | _ => none }
def FnExactTotalOfWrongFalsely : Prop := fnExactTotalOfRow.holds Try.pinned (OpenSpec.ofChange fnExactTotalOfWrong)

/-- 'laws.FnExactReachOf': WHATEVER THE INPUT: true; the input reads as it did. -/
def fnExactReachOfSpec : ChangeSpec := { name := "fnExactReachOf", fn := fun _ => fun
  | [d1, d2] => { results := [.lit (.bool true)], args := [d1, d2] }
  | _ => none }
def fnExactReachOfRow : OpenClaim := { program := "ytahbjhbdgiojeaa", sum := "7ec256cf65c73226e585f69fcaf0ae3358c4e11e232eec20756ac9fca2057883", func := "loop.example/g01110/laws.FnExactReachOf", spec := "fnExactReachOf", unfollowed := true, recurses := true, apart := false }
def FnExactReachOfSaid : Prop := fnExactReachOfRow.holds Try.pinned (OpenSpec.ofChange fnExactReachOfSpec)

/-- ITS FALSE NEIGHBOUR: 'it returns false'. Refute it at one input. -/
def fnExactReachOfWrong : ChangeSpec := { name := "fnExactReachOf", fn := fun _ => fun
  | [d1, d2] => { results := [.lit (.bool false)], args := [d1, d2] }
  | _ => none }
def FnExactReachOfWrongFalsely : Prop := fnExactReachOfRow.holds Try.pinned (OpenSpec.ofChange fnExactReachOfWrong)

/-- 'laws.FnExactClientsOf': WHATEVER THE INPUT: true; the input reads as it did. -/
def fnExactClientsOfSpec : ChangeSpec := { name := "fnExactClientsOf", fn := fun _ => fun
  | [d1, d2] => { results := [.lit (.bool true)], args := [d1, d2] }
  | _ => none }
def fnExactClientsOfRow : OpenClaim := { program := "ytahbjhbdgiojeaa", sum := "7ec256cf65c73226e585f69fcaf0ae3358c4e11e232eec20756ac9fca2057883", func := "loop.example/g01110/laws.FnExactClientsOf", spec := "fnExactClientsOf", unfollowed := true, recurses := true, apart := false }
def FnExactClientsOfSaid : Prop := fnExactClientsOfRow.holds Try.pinned (OpenSpec.ofChange fnExactClientsOfSpec)

/-- ITS FALSE NEIGHBOUR: 'it returns false'. Refute it at one input. -/
def fnExactClientsOfWrong : ChangeSpec := { name := "fnExactClientsOf", fn := fun _ => fun
  | [d1, d2] => { results := [.lit (.bool false)], args := [d1, d2] }
  | _ => none }
def FnExactClientsOfWrongFalsely : Prop := fnExactClientsOfRow.holds Try.pinned (OpenSpec.ofChange fnExactClientsOfWrong)

/-- 'laws.FnExactIdleSites': WHATEVER THE INPUT: true; the input reads as it did. -/
def fnExactIdleSitesSpec : ChangeSpec := { name := "fnExactIdleSites", fn := fun _ => fun
  | [d1, d2] => { results := [.lit (.bool true)], args := [d1, d2] }
  | _ => none }
def fnExactIdleSitesRow : OpenClaim := { program := "ytahbjhbdgiojeaa", sum := "7ec256cf65c73226e585f69fcaf0ae3358c4e11e232eec20756ac9fca2057883", func := "loop.example/g01110/laws.FnExactIdleSites", spec := "fnExactIdleSites", unfollowed := true, recurses := true, apart := false }
def FnExactIdleSitesSaid : Prop := fnExactIdleSitesRow.holds Try.pinned (OpenSpec.ofChange fnExactIdleSitesSpec)

/-- ITS FALSE NEIGHBOUR: 'it returns false'. Refute it at one input. -/
def fnExactIdleSitesWrong : ChangeSpec := { name := "fnExactIdleSites", fn := fun _ => fun
  | [d1, d2] => { results := [.lit (.bool false)], args := [d1, d2] }
  | _ => none }
def FnExactIdleSitesWrongFalsely : Prop := fnExactIdleSitesRow.holds Try.pinned (OpenSpec.ofChange fnExactIdleSitesWrong)

/-- 'laws.FnExactSwapSites': WHATEVER THE INPUT: true; the input reads as it did. -/
def fnExactSwapSitesSpec : ChangeSpec := { name := "fnExactSwapSites", fn := fun _ => fun
  | [d1, d2, d3, d4] => { results := [.lit (.bool true)], args := [d1, d2, d3, d4] }
  | _ => none }
def fnExactSwapSitesRow : OpenClaim := { program := "ytahbjhbdgiojeaa", sum := "7ec256cf65c73226e585f69fcaf0ae3358c4e11e232eec20756ac9fca2057883", func := "loop.example/g01110/laws.FnExactSwapSites", spec := "fnExactSwapSites", unfollowed := true, recurses := true, apart := false }
def FnExactSwapSitesSaid : Prop := fnExactSwapSitesRow.holds Try.pinned (OpenSpec.ofChange fnExactSwapSitesSpec)

/-- ITS FALSE NEIGHBOUR: 'it returns false'. Refute it at one input. -/
def fnExactSwapSitesWrong : ChangeSpec := { name := "fnExactSwapSites", fn := fun _ => fun
  | [d1, d2, d3, d4] => { results := [.lit (.bool false)], args := [d1, d2, d3, d4] }
  | _ => none }
def FnExactSwapSitesWrongFalsely : Prop := fnExactSwapSitesRow.holds Try.pinned (OpenSpec.ofChange fnExactSwapSitesWrong)

/-- 'laws.FnExactPriceGap': WHATEVER THE INPUT: true; the input reads as it did. -/
def fnExactPriceGapSpec : ChangeSpec := { name := "fnExactPriceGap", fn := fun _ => fun
  | [d1, d2, d3] => { results := [.lit (.bool true)], args := [d1, d2, d3] }
  | _ => none }
def fnExactPriceGapRow : OpenClaim := { program := "ytahbjhbdgiojeaa", sum := "7ec256cf65c73226e585f69fcaf0ae3358c4e11e232eec20756ac9fca2057883", func := "loop.example/g01110/laws.FnExactPriceGap", spec := "fnExactPriceGap", unfollowed := true, recurses := true, apart := false }
def FnExactPriceGapSaid : Prop := fnExactPriceGapRow.holds Try.pinned (OpenSpec.ofChange fnExactPriceGapSpec)

/-- ITS FALSE NEIGHBOUR: 'it returns false'. Refute it at one input. -/
def fnExactPriceGapWrong : ChangeSpec := { name := "fnExactPriceGap", fn := fun _ => fun
  | [d1, d2, d3] => { results := [.lit (.bool false)], args := [d1, d2, d3] }
  | _ => none }
def FnExactPriceGapWrongFalsely : Prop := fnExactPriceGapRow.holds Try.pinned (OpenSpec.ofChange fnExactPriceGapWrong)

/-- 'laws.FnExactPricesMeet': WHATEVER THE INPUT: true; the input reads as it did. -/
def fnExactPricesMeetSpec : ChangeSpec := { name := "fnExactPricesMeet", fn := fun _ => fun
  | [d1, d2, d3] => { results := [.lit (.bool true)], args := [d1, d2, d3] }
  | _ => none }
def fnExactPricesMeetRow : OpenClaim := { program := "ytahbjhbdgiojeaa", sum := "7ec256cf65c73226e585f69fcaf0ae3358c4e11e232eec20756ac9fca2057883", func := "loop.example/g01110/laws.FnExactPricesMeet", spec := "fnExactPricesMeet", unfollowed := true, recurses := true, apart := false }
def FnExactPricesMeetSaid : Prop := fnExactPricesMeetRow.holds Try.pinned (OpenSpec.ofChange fnExactPricesMeetSpec)

/-- ITS FALSE NEIGHBOUR: 'it returns false'. Refute it at one input. -/
def fnExactPricesMeetWrong : ChangeSpec := { name := "fnExactPricesMeet", fn := fun _ => fun
  | [d1, d2, d3] => { results := [.lit (.bool false)], args := [d1, d2, d3] }
  | _ => none }
def FnExactPricesMeetWrongFalsely : Prop := fnExactPricesMeetRow.holds Try.pinned (OpenSpec.ofChange fnExactPricesMeetWrong)

/- THE SECOND FORM. 'bulk': how many values and letters a reading holds, each counted each time it is reached (what is shared counts as often as it is met; a slice's spare places count too). A statement '..UptoSaid' is the law's where the arguments, and the package variables that the reading takes, are together of bulk at most 1048576: NARROWER than '..Said'. Prove '..Said' where nothing that the law and all that it calls make is longer than what came in: it says more and counts as full. Else prove '..UptoSaid'. A law counts once. -/
mutual
def uptoBulk {H : Type} : DataW H → Nat
  | .lit (.string bytes) => bytes.length + 1
  | .lit _ => 1
  | .nil => 1
  | .ptr d => uptoBulk d + 1
  | .slice elems spare => uptoBulkAll elems + uptoBulkAll spare + 1
  | .agg parts => uptoBulkAll parts + 1
  | .iface _ d => uptoBulk d + 1
  | .map entries => uptoBulkEntries entries + 1
  | .held _ => 1
def uptoBulkAll {H : Type} : List (DataW H) → Nat
  | [] => 0
  | d :: r => uptoBulk d + uptoBulkAll r
def uptoBulkEntries {H : Type} : List (Lit × DataW H) → Nat
  | [] => 0
  | x :: r => uptoBulkEntry x + uptoBulkEntries r
def uptoBulkEntry {H : Type} : Lit × DataW H → Nat
  | (.string bytes, d) => bytes.length + uptoBulk d + 1
  | (_, d) => uptoBulk d + 1
 end
def uptoSmall : (H : Type) → List (DataW H) → Bool := fun _ ds => decide (uptoBulkAll ds ≤ 1048576)
def OpenSpec.upto (s : _root_.Go.ChangeSpec) : _root_.Go.OpenSpec := { _root_.Go.OpenSpec.ofChange s with cond := some uptoSmall }

/-- 'laws.FnExactServedBy', WHERE WHAT IT READS IS OF BULK AT MOST 1048576: true; the input reads as it did. -/
def fnExactServedByUptoRow : OpenClaim := { program := "ytahbjhbdgiojeaa", sum := "7ec256cf65c73226e585f69fcaf0ae3358c4e11e232eec20756ac9fca2057883", func := "loop.example/g01110/laws.FnExactServedBy", spec := "fnExactServedBy", unfollowed := true, recurses := true, apart := false, narrowed := true }
def FnExactServedByUptoSaid : Prop := fnExactServedByUptoRow.holds Try.pinned (OpenSpec.upto fnExactServedBySpec)

/-- 'laws.FnExactPaymentOf', WHERE WHAT IT READS IS OF BULK AT MOST 1048576: true; the input reads as it did. -/
def fnExactPaymentOfUptoRow : OpenClaim := { program := "ytahbjhbdgiojeaa", sum := "7ec256cf65c73226e585f69fcaf0ae3358c4e11e232eec20756ac9fca2057883", func := "loop.example/g01110/laws.FnExactPaymentOf", spec := "fnExactPaymentOf", unfollowed := true, recurses := true, apart := false, narrowed := true }
def FnExactPaymentOfUptoSaid : Prop := fnExactPaymentOfUptoRow.holds Try.pinned (OpenSpec.upto fnExactPaymentOfSpec)

/-- 'laws.FnExactTotalOf', WHERE WHAT IT READS IS OF BULK AT MOST 1048576: true; the input reads as it did. -/
def fnExactTotalOfUptoRow : OpenClaim := { program := "ytahbjhbdgiojeaa", sum := "7ec256cf65c73226e585f69fcaf0ae3358c4e11e232eec20756ac9fca2057883", func := "loop.example/g01110/laws.FnExactTotalOf", spec := "fnExactTotalOf", unfollowed := true, recurses := true, apart := false, narrowed := true }
def FnExactTotalOfUptoSaid : Prop := fnExactTotalOfUptoRow.holds Try.pinned (OpenSpec.upto fnExactTotalOfSpec)

/-- 'laws.FnExactReachOf', WHERE WHAT IT READS IS OF BULK AT MOST 1048576: true; the input reads as it did. -/
def fnExactReachOfUptoRow : OpenClaim := { program := "ytahbjhbdgiojeaa", sum := "7ec256cf65c73226e585f69fcaf0ae3358c4e11e232eec20756ac9fca2057883", func := "loop.example/g01110/laws.FnExactReachOf", spec := "fnExactReachOf", unfollowed := true, recurses := true, apart := false, narrowed := true }
def FnExactReachOfUptoSaid : Prop := fnExactReachOfUptoRow.holds Try.pinned (OpenSpec.upto fnExactReachOfSpec)

/-- 'laws.FnExactClientsOf', WHERE WHAT IT READS IS OF BULK AT MOST 1048576: true; the input reads as it did. -/
def fnExactClientsOfUptoRow : OpenClaim := { program := "ytahbjhbdgiojeaa", sum := "7ec256cf65c73226e585f69fcaf0ae3358c4e11e232eec20756ac9fca2057883", func := "loop.example/g01110/laws.FnExactClientsOf", spec := "fnExactClientsOf", unfollowed := true, recurses := true, apart := false, narrowed := true }
def FnExactClientsOfUptoSaid : Prop := fnExactClientsOfUptoRow.holds Try.pinned (OpenSpec.upto fnExactClientsOfSpec)

/-- 'laws.FnExactIdleSites', WHERE WHAT IT READS IS OF BULK AT MOST 1048576: true; the input reads as it did. -/
def fnExactIdleSitesUptoRow : OpenClaim := { program := "ytahbjhbdgiojeaa", sum := "7ec256cf65c73226e585f69fcaf0ae3358c4e11e232eec20756ac9fca2057883", func := "loop.example/g01110/laws.FnExactIdleSites", spec := "fnExactIdleSites", unfollowed := true, recurses := true, apart := false, narrowed := true }
def FnExactIdleSitesUptoSaid : Prop := fnExactIdleSitesUptoRow.holds Try.pinned (OpenSpec.upto fnExactIdleSitesSpec)

/-- 'laws.FnExactSwapSites', WHERE WHAT IT READS IS OF BULK AT MOST 1048576: true; the input reads as it did. -/
def fnExactSwapSitesUptoRow : OpenClaim := { program := "ytahbjhbdgiojeaa", sum := "7ec256cf65c73226e585f69fcaf0ae3358c4e11e232eec20756ac9fca2057883", func := "loop.example/g01110/laws.FnExactSwapSites", spec := "fnExactSwapSites", unfollowed := true, recurses := true, apart := false, narrowed := true }
def FnExactSwapSitesUptoSaid : Prop := fnExactSwapSitesUptoRow.holds Try.pinned (OpenSpec.upto fnExactSwapSitesSpec)

/-- 'laws.FnExactPriceGap', WHERE WHAT IT READS IS OF BULK AT MOST 1048576: true; the input reads as it did. -/
def fnExactPriceGapUptoRow : OpenClaim := { program := "ytahbjhbdgiojeaa", sum := "7ec256cf65c73226e585f69fcaf0ae3358c4e11e232eec20756ac9fca2057883", func := "loop.example/g01110/laws.FnExactPriceGap", spec := "fnExactPriceGap", unfollowed := true, recurses := true, apart := false, narrowed := true }
def FnExactPriceGapUptoSaid : Prop := fnExactPriceGapUptoRow.holds Try.pinned (OpenSpec.upto fnExactPriceGapSpec)

/-- 'laws.FnExactPricesMeet', WHERE WHAT IT READS IS OF BULK AT MOST 1048576: true; the input reads as it did. -/
def fnExactPricesMeetUptoRow : OpenClaim := { program := "ytahbjhbdgiojeaa", sum := "7ec256cf65c73226e585f69fcaf0ae3358c4e11e232eec20756ac9fca2057883", func := "loop.example/g01110/laws.FnExactPricesMeet", spec := "fnExactPricesMeet", unfollowed := true, recurses := true, apart := false, narrowed := true }
def FnExactPricesMeetUptoSaid : Prop := fnExactPricesMeetUptoRow.holds Try.pinned (OpenSpec.upto fnExactPricesMeetSpec)

end Rows
end Go.Proofs.Ytahbjhbdgiojeaa
