/-
  No cell of these rows narrows 'for every input' (looked for: loops, veiled, ifaces, maps, wideKeys, modest, calm, conditions, laid).
  DERIVED. THE GIVEN ROWS OF THIS SEAT. 5 by the template 'for every input the law returns true; each argument reads behind the call as it read before'; 0 by the template 'total and deterministic' (their statements: YtfiijfgclfoeoaaTotals.lean).
  GIVEN WITH THE SEED: the statements are not yours to turn. If you find one false, say at which input.
  Laid BY PROGRAM, IN A SANDBOX (cutbox-rows.mjs): the forced cells as the released guide's own fill.sh prints them over the translation 159b904463874da3… (all of the seat's roots in one cut). By AI agents, Wed Nov 11 2026. No macro, syntax, notation, axiom, sorry.
-/
import Derived.Test.YtfiijfgclfoeoaaChecked
import GoSem.Claim
import GoSem.ClaimJoined
import GoSem.ClaimMapViews
import Derived.JoinedTies
import Derived.KernelRfl
namespace Go.Proofs.Ytfiijfgclfoeoaa
/- THE CELL 'sum', in the pinned program and in every row, IS THE sha256 OF THE DUMP (.gsa) THAT YtfiijfgclfoeoaaProg.lean LOADS. Nothing in Lean hashes anything: it is a label: what it is worth is what the hold of that sum in a sandbox is worth. -/
noncomputable def Try.pinned : Pinned := { name := "ytfiijfgclfoeoaa", sum := "159b904463874da355566569b8700dfd9360ceb0908f3e1f4bffb95024527e7d", checked := Try.checked }
namespace Rows
def none {H : Type} : Left H := { results := [], args := [] }

/-- 'laws.FnExactVotesOf': WHATEVER THE INPUT: true; the input reads as it did. -/
def fnExactVotesOfSpec : ChangeSpec := { name := "fnExactVotesOf", fn := fun _ => fun
  | [d1, d2, d3] => { results := [.lit (.bool true)], args := [d1, d2, d3] }
  | _ => none }
def fnExactVotesOfRow : OpenClaim := { program := "ytfiijfgclfoeoaa", sum := "159b904463874da355566569b8700dfd9360ceb0908f3e1f4bffb95024527e7d", func := "loop.example/g01110/laws.FnExactVotesOf", spec := "fnExactVotesOf", unfollowed := true, recurses := true, apart := false }
def FnExactVotesOfSaid : Prop := fnExactVotesOfRow.holds Try.pinned (OpenSpec.ofChange fnExactVotesOfSpec)

/-- ITS FALSE NEIGHBOUR: 'it returns false'. Refute it at one input. -/
def fnExactVotesOfWrong : ChangeSpec := { name := "fnExactVotesOf", fn := fun _ => fun
  | [d1, d2, d3] => { results := [.lit (.bool false)], args := [d1, d2, d3] }
  | _ => none }
def FnExactVotesOfWrongFalsely : Prop := fnExactVotesOfRow.holds Try.pinned (OpenSpec.ofChange fnExactVotesOfWrong)

/-- 'laws.FnExactUnbeatenSites': WHATEVER THE INPUT: true; the input reads as it did. -/
def fnExactUnbeatenSitesSpec : ChangeSpec := { name := "fnExactUnbeatenSites", fn := fun _ => fun
  | [d] => { results := [.lit (.bool true)], args := [d] }
  | _ => none }
def fnExactUnbeatenSitesRow : OpenClaim := { program := "ytfiijfgclfoeoaa", sum := "159b904463874da355566569b8700dfd9360ceb0908f3e1f4bffb95024527e7d", func := "loop.example/g01110/laws.FnExactUnbeatenSites", spec := "fnExactUnbeatenSites", unfollowed := true, recurses := true, apart := false }
def FnExactUnbeatenSitesSaid : Prop := fnExactUnbeatenSitesRow.holds Try.pinned (OpenSpec.ofChange fnExactUnbeatenSitesSpec)

/-- ITS FALSE NEIGHBOUR: 'it returns false'. Refute it at one input. -/
def fnExactUnbeatenSitesWrong : ChangeSpec := { name := "fnExactUnbeatenSites", fn := fun _ => fun
  | [d] => { results := [.lit (.bool false)], args := [d] }
  | _ => none }
def FnExactUnbeatenSitesWrongFalsely : Prop := fnExactUnbeatenSitesRow.holds Try.pinned (OpenSpec.ofChange fnExactUnbeatenSitesWrong)

/-- 'laws.FnExactClientsTaken': WHATEVER THE INPUT: true; the input reads as it did. -/
def fnExactClientsTakenSpec : ChangeSpec := { name := "fnExactClientsTaken", fn := fun _ => fun
  | [d1, d2, d3] => { results := [.lit (.bool true)], args := [d1, d2, d3] }
  | _ => none }
def fnExactClientsTakenRow : OpenClaim := { program := "ytfiijfgclfoeoaa", sum := "159b904463874da355566569b8700dfd9360ceb0908f3e1f4bffb95024527e7d", func := "loop.example/g01110/laws.FnExactClientsTaken", spec := "fnExactClientsTaken", unfollowed := true, recurses := true, apart := false }
def FnExactClientsTakenSaid : Prop := fnExactClientsTakenRow.holds Try.pinned (OpenSpec.ofChange fnExactClientsTakenSpec)

/-- ITS FALSE NEIGHBOUR: 'it returns false'. Refute it at one input. -/
def fnExactClientsTakenWrong : ChangeSpec := { name := "fnExactClientsTaken", fn := fun _ => fun
  | [d1, d2, d3] => { results := [.lit (.bool false)], args := [d1, d2, d3] }
  | _ => none }
def FnExactClientsTakenWrongFalsely : Prop := fnExactClientsTakenRow.holds Try.pinned (OpenSpec.ofChange fnExactClientsTakenWrong)

/-- 'laws.FnExactBestFollower': WHATEVER THE INPUT: true; the input reads as it did. -/
def fnExactBestFollowerSpec : ChangeSpec := { name := "fnExactBestFollower", fn := fun _ => fun
  | [d1, d2, d3] => { results := [.lit (.bool true)], args := [d1, d2, d3] }
  | _ => none }
def fnExactBestFollowerRow : OpenClaim := { program := "ytfiijfgclfoeoaa", sum := "159b904463874da355566569b8700dfd9360ceb0908f3e1f4bffb95024527e7d", func := "loop.example/g01110/laws.FnExactBestFollower", spec := "fnExactBestFollower", unfollowed := true, recurses := true, apart := false }
def FnExactBestFollowerSaid : Prop := fnExactBestFollowerRow.holds Try.pinned (OpenSpec.ofChange fnExactBestFollowerSpec)

/-- ITS FALSE NEIGHBOUR: 'it returns false'. Refute it at one input. -/
def fnExactBestFollowerWrong : ChangeSpec := { name := "fnExactBestFollower", fn := fun _ => fun
  | [d1, d2, d3] => { results := [.lit (.bool false)], args := [d1, d2, d3] }
  | _ => none }
def FnExactBestFollowerWrongFalsely : Prop := fnExactBestFollowerRow.holds Try.pinned (OpenSpec.ofChange fnExactBestFollowerWrong)

/-- 'laws.FnExactBestLeader': WHATEVER THE INPUT: true; the input reads as it did. -/
def fnExactBestLeaderSpec : ChangeSpec := { name := "fnExactBestLeader", fn := fun _ => fun
  | [d1, d2, d3] => { results := [.lit (.bool true)], args := [d1, d2, d3] }
  | _ => none }
def fnExactBestLeaderRow : OpenClaim := { program := "ytfiijfgclfoeoaa", sum := "159b904463874da355566569b8700dfd9360ceb0908f3e1f4bffb95024527e7d", func := "loop.example/g01110/laws.FnExactBestLeader", spec := "fnExactBestLeader", unfollowed := true, recurses := true, apart := false }
def FnExactBestLeaderSaid : Prop := fnExactBestLeaderRow.holds Try.pinned (OpenSpec.ofChange fnExactBestLeaderSpec)

/-- ITS FALSE NEIGHBOUR: 'it returns false'. Refute it at one input. -/
def fnExactBestLeaderWrong : ChangeSpec := { name := "fnExactBestLeader", fn := fun _ => fun
  | [d1, d2, d3] => { results := [.lit (.bool false)], args := [d1, d2, d3] }
  | _ => none }
def FnExactBestLeaderWrongFalsely : Prop := fnExactBestLeaderRow.holds Try.pinned (OpenSpec.ofChange fnExactBestLeaderWrong)

/- THE SECOND FORM. 'bulk': how many values and letters a reading holds, each counted each time it is reached (what is shared counts as often as it is met; a slice's spare places count too). A statement '..UptoSaid' is the law's where the arguments, and the package variables that the reading takes, are together of bulk at most 1048576: NARROWER than '..Said'. Prove '..Said' where nothing that the law and all that it calls make is longer than what came in: it says more and counts as full. Else prove '..UptoSaid'. A law counts once. -/
mutual
def uptoBulk {H : Type} : DataW H → Nat
  | .lit (.string bytes) => bytes.length + 1
  | .lit _ => 1
  | .nil => 1
  | .ptr d => uptoBulk d + 1
  | .slice elems spare => uptoBulkAll elems + uptoBulkAll spare + 1
  | .agg parts => uptoBulkAll parts + 1
  | .iface _ d => uptoBulk d + 1
  | .map entries => uptoBulkEntries entries + 1
  | .held _ => 1
def uptoBulkAll {H : Type} : List (DataW H) → Nat
  | [] => 0
  | d :: r => uptoBulk d + uptoBulkAll r
def uptoBulkEntries {H : Type} : List (Lit × DataW H) → Nat
  | [] => 0
  | x :: r => uptoBulkEntry x + uptoBulkEntries r
def uptoBulkEntry {H : Type} : Lit × DataW H → Nat
  | (.string bytes, d) => bytes.length + uptoBulk d + 1
  | (_, d) => uptoBulk d + 1
 end
def uptoSmall : (H : Type) → List (DataW H) → Bool := fun _ ds => decide (uptoBulkAll ds ≤ 1048576)
def OpenSpec.upto (s : _root_.Go.ChangeSpec) : _root_.Go.OpenSpec := { _root_.Go.OpenSpec.ofChange s with cond := some uptoSmall }

/-- 'laws.FnExactVotesOf', WHERE WHAT IT READS IS OF BULK AT MOST 1048576: true; the input reads as it did. -/
def fnExactVotesOfUptoRow : OpenClaim := { program := "ytfiijfgclfoeoaa", sum := "159b904463874da355566569b8700dfd9360ceb0908f3e1f4bffb95024527e7d", func := "loop.example/g01110/laws.FnExactVotesOf", spec := "fnExactVotesOf", unfollowed := true, recurses := true, apart := false, narrowed := true }
def FnExactVotesOfUptoSaid : Prop := fnExactVotesOfUptoRow.holds Try.pinned (OpenSpec.upto fnExactVotesOfSpec)

/-- 'laws.FnExactUnbeatenSites', WHERE WHAT IT READS IS OF BULK AT MOST 1048576: true; the input reads as it did. -/
def fnExactUnbeatenSitesUptoRow : OpenClaim := { program := "ytfiijfgclfoeoaa", sum := "159b904463874da355566569b8700dfd9360ceb0908f3e1f4bffb95024527e7d", func := "loop.example/g01110/laws.FnExactUnbeatenSites", spec := "fnExactUnbeatenSites", unfollowed := true, recurses := true, apart := false, narrowed := true }
def FnExactUnbeatenSitesUptoSaid : Prop := fnExactUnbeatenSitesUptoRow.holds Try.pinned (OpenSpec.upto fnExactUnbeatenSitesSpec)

/-- 'laws.FnExactClientsTaken', WHERE WHAT IT READS IS OF BULK AT MOST 1048576: true; the input reads as it did. -/
def fnExactClientsTakenUptoRow : OpenClaim := { program := "ytfiijfgclfoeoaa", sum := "159b904463874da355566569b8700dfd9360ceb0908f3e1f4bffb95024527e7d", func := "loop.example/g01110/laws.FnExactClientsTaken", spec := "fnExactClientsTaken", unfollowed := true, recurses := true, apart := false, narrowed := true }
def FnExactClientsTakenUptoSaid : Prop := fnExactClientsTakenUptoRow.holds Try.pinned (OpenSpec.upto fnExactClientsTakenSpec)

/-- 'laws.FnExactBestFollower', WHERE WHAT IT READS IS OF BULK AT MOST 1048576: true; the input reads as it did. -/
def fnExactBestFollowerUptoRow : OpenClaim := { program := "ytfiijfgclfoeoaa", sum := "159b904463874da355566569b8700dfd9360ceb0908f3e1f4bffb95024527e7d", func := "loop.example/g01110/laws.FnExactBestFollower", spec := "fnExactBestFollower", unfollowed := true, recurses := true, apart := false, narrowed := true }
def FnExactBestFollowerUptoSaid : Prop := fnExactBestFollowerUptoRow.holds Try.pinned (OpenSpec.upto fnExactBestFollowerSpec)

/-- 'laws.FnExactBestLeader', WHERE WHAT IT READS IS OF BULK AT MOST 1048576: true; the input reads as it did. -/
def fnExactBestLeaderUptoRow : OpenClaim := { program := "ytfiijfgclfoeoaa", sum := "159b904463874da355566569b8700dfd9360ceb0908f3e1f4bffb95024527e7d", func := "loop.example/g01110/laws.FnExactBestLeader", spec := "fnExactBestLeader", unfollowed := true, recurses := true, apart := false, narrowed := true }
def FnExactBestLeaderUptoSaid : Prop := fnExactBestLeaderUptoRow.holds Try.pinned (OpenSpec.upto fnExactBestLeaderSpec)

end Rows
end Go.Proofs.Ytfiijfgclfoeoaa
