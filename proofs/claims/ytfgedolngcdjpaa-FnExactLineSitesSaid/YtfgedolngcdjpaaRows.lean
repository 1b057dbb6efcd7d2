/-
  No cell of these rows narrows 'for every input' (looked for: loops, veiled, ifaces, maps, wideKeys, modest, calm, conditions, laid).
  DERIVED. THE GIVEN ROWS OF THIS SEAT. 4 by the template 'for every input the law returns true; each argument reads behind the call as it read before'; 0 by the template 'total and deterministic' (their statements: YtfgedolngcdjpaaTotals.lean).
  GIVEN WITH THE SEED: the statements are not yours to turn. If you find one false, say at which input.
  Laid BY PROGRAM, IN A SANDBOX (cutbox-rows.mjs): the forced cells as the released guide's own fill.sh prints them over the translation d9757296a0ba6ea5… (all of the seat's roots in one cut). By AI agents, Wed Nov 11 2026. No macro, syntax, notation, axiom, sorry.
-/
import Derived.Test.YtfgedolngcdjpaaChecked
import GoSem.Claim
import GoSem.ClaimJoined
import GoSem.ClaimMapViews
import Derived.JoinedTies
import Derived.KernelRfl
namespace Go.Proofs.Ytfgedolngcdjpaa
/- THE CELL 'sum', in the pinned program and in every row, IS THE sha256 OF THE DUMP (.gsa) THAT YtfgedolngcdjpaaProg.lean LOADS. Nothing in Lean hashes anything: it is a label: what it is worth is what the hold of that sum in a sandbox is worth. -/
noncomputable def Try.pinned : Pinned := { name := "ytfgedolngcdjpaa", sum := "d9757296a0ba6ea57c7a3d2c1f2d6ad05c4b4ed110dd8df056d4b9b9473d7661", checked := Try.checked }
namespace Rows
def none {H : Type} : Left H := { results := [], args := [] }

/-- 'laws.FnExactLineGroups': WHATEVER THE INPUT: true; the input reads as it did. -/
def fnExactLineGroupsSpec : ChangeSpec := { name := "fnExactLineGroups", fn := fun _ => fun
  | [d1, d2, d3] => { results := [.lit (.bool true)], args := [d1, d2, d3] }
  | _ => none }
def fnExactLineGroupsRow : OpenClaim := { program := "ytfgedolngcdjpaa", sum := "d9757296a0ba6ea57c7a3d2c1f2d6ad05c4b4ed110dd8df056d4b9b9473d7661", func := "loop.example/g01110/laws.FnExactLineGroups", spec := "fnExactLineGroups", unfollowed := true, recurses := true, apart := false }
def FnExactLineGroupsSaid : Prop := fnExactLineGroupsRow.holds Try.pinned (OpenSpec.ofChange fnExactLineGroupsSpec)

/-- ITS FALSE NEIGHBOUR: 'it returns false'. Refute it at one input. -/
def fnExactLineGroupsWrong : ChangeSpec := { name := "fnExactLineGroups", fn := fun _ => fun
  | [d1, d2, d3] => { results := [.lit (.bool false)], args := [d1, d2, d3] }
  | _ => none }
def FnExactLineGroupsWrongFalsely : Prop := fnExactLineGroupsRow.holds Try.pinned (OpenSpec.ofChange fnExactLineGroupsWrong)

/-- 'laws.FnExactLineSites': WHATEVER THE INPUT: true; the input reads as it did. -/
def fnExactLineSitesSpec : ChangeSpec := { name := "fnExactLineSites", fn := fun _ => fun
  | [d1, d2, d3] => { results := [.lit (.bool true)], args := [d1, d2, d3] }
  | _ => none }
def fnExactLineSitesRow : OpenClaim := { program := "ytfgedolngcdjpaa", sum := "d9757296a0ba6ea57c7a3d2c1f2d6ad05c4b4ed110dd8df056d4b9b9473d7661", func := "loop.example/g01110/laws.FnExactLineSites", spec := "fnExactLineSites", unfollowed := true, recurses := true, apart := false }
def FnExactLineSitesSaid : Prop := fnExactLineSitesRow.holds Try.pinned (OpenSpec.ofChange fnExactLineSitesSpec)

/-- ITS FALSE NEIGHBOUR: 'it returns false'. Refute it at one input. -/
def fnExactLineSitesWrong : ChangeSpec := { name := "fnExactLineSites", fn := fun _ => fun
  | [d1, d2, d3] => { results := [.lit (.bool false)], args := [d1, d2, d3] }
  | _ => none }
def FnExactLineSitesWrongFalsely : Prop := fnExactLineSitesRow.holds Try.pinned (OpenSpec.ofChange fnExactLineSitesWrong)

/-- 'laws.FnExactLineMedian': WHATEVER THE INPUT: true; the input reads as it did. -/
def fnExactLineMedianSpec : ChangeSpec := { name := "fnExactLineMedian", fn := fun _ => fun
  | [d1, d2, d3] => { results := [.lit (.bool true)], args := [d1, d2, d3] }
  | _ => none }
def fnExactLineMedianRow : OpenClaim := { program := "ytfgedolngcdjpaa", sum := "d9757296a0ba6ea57c7a3d2c1f2d6ad05c4b4ed110dd8df056d4b9b9473d7661", func := "loop.example/g01110/laws.FnExactLineMedian", spec := "fnExactLineMedian", unfollowed := true, recurses := true, apart := false }
def FnExactLineMedianSaid : Prop := fnExactLineMedianRow.holds Try.pinned (OpenSpec.ofChange fnExactLineMedianSpec)

/-- ITS FALSE NEIGHBOUR: 'it returns false'. Refute it at one input. -/
def fnExactLineMedianWrong : ChangeSpec := { name := "fnExactLineMedian", fn := fun _ => fun
  | [d1, d2, d3] => { results := [.lit (.bool false)], args := [d1, d2, d3] }
  | _ => none }
def FnExactLineMedianWrongFalsely : Prop := fnExactLineMedianRow.holds Try.pinned (OpenSpec.ofChange fnExactLineMedianWrong)

/-- 'laws.FnExactLineField': WHATEVER THE INPUT: true; the input reads as it did. -/
def fnExactLineFieldSpec : ChangeSpec := { name := "fnExactLineField", fn := fun _ => fun
  | [d1, d2] => { results := [.lit (.bool true)], args := [d1, d2] }
  | _ => none }
def fnExactLineFieldRow : OpenClaim := { program := "ytfgedolngcdjpaa", sum := "d9757296a0ba6ea57c7a3d2c1f2d6ad05c4b4ed110dd8df056d4b9b9473d7661", func := "loop.example/g01110/laws.FnExactLineField", spec := "fnExactLineField", unfollowed := true, recurses := true, apart := false }
def FnExactLineFieldSaid : Prop := fnExactLineFieldRow.holds Try.pinned (OpenSpec.ofChange fnExactLineFieldSpec)

/-- ITS FALSE NEIGHBOUR: 'it returns false'. Refute it at one input. -/
def fnExactLineFieldWrong : ChangeSpec := { name := "fnExactLineField", fn := fun _ => fun
  | [d1, d2] => { results := [.lit (.bool false)], args := [d1, d2] }
  | _ => none }
def FnExactLineFieldWrongFalsely : Prop := fnExactLineFieldRow.holds Try.pinned (OpenSpec.ofChange fnExactLineFieldWrong)

/- THE SECOND FORM. 'bulk': how many values and letters a reading holds, each counted each time it is reached (what is shared counts as often as it is met; a slice's spare places count too). A statement '..UptoSaid' is the law's where the arguments, and the package variables that the reading takes, are together of bulk at most 1048576: NARROWER than '..Said'. Prove '..Said' where nothing that the law and all that it calls make is longer than what came in: it says more and counts as full. Else prove '..UptoSaid'. A law counts once. -/
mutual
def uptoBulk {H : Type} : DataW H → Nat
  | .lit (.string bytes) => bytes.length + 1
  | .lit _ => 1
  | .nil => 1
  | .ptr d => uptoBulk d + 1
  | .slice elems spare => uptoBulkAll elems + uptoBulkAll spare + 1
  | .agg parts => uptoBulkAll parts + 1
  | .iface _ d => uptoBulk d + 1
  | .map entries => uptoBulkEntries entries + 1
  | .held _ => 1
def uptoBulkAll {H : Type} : List (DataW H) → Nat
  | [] => 0
  | d :: r => uptoBulk d + uptoBulkAll r
def uptoBulkEntries {H : Type} : List (Lit × DataW H) → Nat
  | [] => 0
  | x :: r => uptoBulkEntry x + uptoBulkEntries r
def uptoBulkEntry {H : Type} : Lit × DataW H → Nat
  | (.string bytes, d) => bytes.length + uptoBulk d + 1
  | (_, d) => uptoBulk d + 1
 end
def uptoSmall : (H : Type) → List (DataW H) → Bool := fun _ ds => decide (uptoBulkAll ds ≤ 1048576)
def OpenSpec.upto (s : _root_.Go.ChangeSpec) : _root_.Go.OpenSpec := { _root_.Go.OpenSpec.ofChange s with cond := some uptoSmall }

/-- 'laws.FnExactLineGroups', WHERE WHAT IT READS IS OF BULK AT MOST 1048576: true; the input reads as it did. -/
def fnExactLineGroupsUptoRow : OpenClaim := { program := "ytfgedolngcdjpaa", sum := "d9757296a0ba6ea57c7a3d2c1f2d6ad05c4b4ed110dd8df056d4b9b9473d7661", func := "loop.example/g01110/laws.FnExactLineGroups", spec := "fnExactLineGroups", unfollowed := true, recurses := true, apart := false, narrowed := true }
def FnExactLineGroupsUptoSaid : Prop := fnExactLineGroupsUptoRow.holds Try.pinned (OpenSpec.upto fnExactLineGroupsSpec)

/-- 'laws.FnExactLineSites', WHERE WHAT IT READS IS OF BULK AT MOST 1048576: true; the input reads as it did. -/
def fnExactLineSitesUptoRow : OpenClaim := { program := "ytfgedolngcdjpaa", sum := "d9757296a0ba6ea57c7a3d2c1f2d6ad05c4b4ed110dd8df056d4b9b9473d7661", func := "loop.example/g01110/laws.FnExactLineSites", spec := "fnExactLineSites", unfollowed := true, recurses := true, apart := false, narrowed := true }
def FnExactLineSitesUptoSaid : Prop := fnExactLineSitesUptoRow.holds Try.pinned (OpenSpec.upto fnExactLineSitesSpec)

/-- 'laws.FnExactLineMedian', WHERE WHAT IT READS IS OF BULK AT MOST 1048576: true; the input reads as it did. -/
def fnExactLineMedianUptoRow : OpenClaim := { program := "ytfgedolngcdjpaa", sum := "d9757296a0ba6ea57c7a3d2c1f2d6ad05c4b4ed110dd8df056d4b9b9473d7661", func := "loop.example/g01110/laws.FnExactLineMedian", spec := "fnExactLineMedian", unfollowed := true, recurses := true, apart := false, narrowed := true }
def FnExactLineMedianUptoSaid : Prop := fnExactLineMedianUptoRow.holds Try.pinned (OpenSpec.upto fnExactLineMedianSpec)

/-- 'laws.FnExactLineField', WHERE WHAT IT READS IS OF BULK AT MOST 1048576: true; the input reads as it did. -/
def fnExactLineFieldUptoRow : OpenClaim := { program := "ytfgedolngcdjpaa", sum := "d9757296a0ba6ea57c7a3d2c1f2d6ad05c4b4ed110dd8df056d4b9b9473d7661", func := "loop.example/g01110/laws.FnExactLineField", spec := "fnExactLineField", unfollowed := true, recurses := true, apart := false, narrowed := true }
def FnExactLineFieldUptoSaid : Prop := fnExactLineFieldUptoRow.holds Try.pinned (OpenSpec.upto fnExactLineFieldSpec)

end Rows
end Go.Proofs.Ytfgedolngcdjpaa
