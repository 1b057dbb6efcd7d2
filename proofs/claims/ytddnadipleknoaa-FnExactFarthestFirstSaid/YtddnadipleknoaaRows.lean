/-
  No cell of these rows narrows 'for every input' (looked for: loops, veiled, ifaces, maps, wideKeys, modest, calm, conditions, laid).
  DERIVED. THE GIVEN ROWS OF THIS SEAT. 4 by the template 'for every input the law returns true; each argument reads behind the call as it read before'; 0 by the template 'total and deterministic' (their statements: YtddnadipleknoaaTotals.lean).
  GIVEN WITH THE SEED: the statements are not yours to turn. If you find one false, say at which input.
  Laid BY PROGRAM, IN A SANDBOX (cutbox-rows.mjs): the forced cells as the released guide's own fill.sh prints them over the translation 7749a2d79eb593b6… (all of the seat's roots in one cut). By AI agents, Wed Nov 11 2026. No macro, syntax, notation, axiom, sorry.
-/
import Derived.Test.YtddnadipleknoaaChecked
import GoSem.Claim
import GoSem.ClaimJoined
import GoSem.ClaimMapViews
import Derived.JoinedTies
import Derived.KernelRfl
namespace Go.Proofs.Ytddnadipleknoaa
/- THE CELL 'sum', in the pinned program and in every row, IS THE sha256 OF THE DUMP (.gsa) THAT YtddnadipleknoaaProg.lean LOADS. Nothing in Lean hashes anything: it is a label: what it is worth is what the hold of that sum in a sandbox is worth. -/
noncomputable def Try.pinned : Pinned := { name := "ytddnadipleknoaa", sum := "7749a2d79eb593b660b73fd9f0807037ee198e6606457dd5e4034d0b9a401d54", checked := Try.checked }
namespace Rows
def none {H : Type} : Left H := { results := [], args := [] }

/-- 'laws.FnExactBestDispersion': WHATEVER THE INPUT: true; the input reads as it did. -/
def fnExactBestDispersionSpec : ChangeSpec := { name := "fnExactBestDispersion", fn := fun _ => fun
  | [d1, d2] => { results := [.lit (.bool true)], args := [d1, d2] }
  | _ => none }
def fnExactBestDispersionRow : OpenClaim := { program := "ytddnadipleknoaa", sum := "7749a2d79eb593b660b73fd9f0807037ee198e6606457dd5e4034d0b9a401d54", func := "loop.example/g01110/laws.FnExactBestDispersion", spec := "fnExactBestDispersion", unfollowed := true, recurses := true, apart := false }
def FnExactBestDispersionSaid : Prop := fnExactBestDispersionRow.holds Try.pinned (OpenSpec.ofChange fnExactBestDispersionSpec)

/-- ITS FALSE NEIGHBOUR: 'it returns false'. Refute it at one input. -/
def fnExactBestDispersionWrong : ChangeSpec := { name := "fnExactBestDispersion", fn := fun _ => fun
  | [d1, d2] => { results := [.lit (.bool false)], args := [d1, d2] }
  | _ => none }
def FnExactBestDispersionWrongFalsely : Prop := fnExactBestDispersionRow.holds Try.pinned (OpenSpec.ofChange fnExactBestDispersionWrong)

/-- 'laws.FnExactFarthestFirst': WHATEVER THE INPUT: true; the input reads as it did. -/
def fnExactFarthestFirstSpec : ChangeSpec := { name := "fnExactFarthestFirst", fn := fun _ => fun
  | [d1, d2] => { results := [.lit (.bool true)], args := [d1, d2] }
  | _ => none }
def fnExactFarthestFirstRow : OpenClaim := { program := "ytddnadipleknoaa", sum := "7749a2d79eb593b660b73fd9f0807037ee198e6606457dd5e4034d0b9a401d54", func := "loop.example/g01110/laws.FnExactFarthestFirst", spec := "fnExactFarthestFirst", unfollowed := true, recurses := true, apart := false }
def FnExactFarthestFirstSaid : Prop := fnExactFarthestFirstRow.holds Try.pinned (OpenSpec.ofChange fnExactFarthestFirstSpec)

/-- ITS FALSE NEIGHBOUR: 'it returns false'. Refute it at one input. -/
def fnExactFarthestFirstWrong : ChangeSpec := { name := "fnExactFarthestFirst", fn := fun _ => fun
  | [d1, d2] => { results := [.lit (.bool false)], args := [d1, d2] }
  | _ => none }
def FnExactFarthestFirstWrongFalsely : Prop := fnExactFarthestFirstRow.holds Try.pinned (OpenSpec.ofChange fnExactFarthestFirstWrong)

/-- 'laws.FnExactNearGroups': WHATEVER THE INPUT: true; the input reads as it did. -/
def fnExactNearGroupsSpec : ChangeSpec := { name := "fnExactNearGroups", fn := fun _ => fun
  | [d1, d2] => { results := [.lit (.bool true)], args := [d1, d2] }
  | _ => none }
def fnExactNearGroupsRow : OpenClaim := { program := "ytddnadipleknoaa", sum := "7749a2d79eb593b660b73fd9f0807037ee198e6606457dd5e4034d0b9a401d54", func := "loop.example/g01110/laws.FnExactNearGroups", spec := "fnExactNearGroups", unfollowed := true, recurses := true, apart := false }
def FnExactNearGroupsSaid : Prop := fnExactNearGroupsRow.holds Try.pinned (OpenSpec.ofChange fnExactNearGroupsSpec)

/-- ITS FALSE NEIGHBOUR: 'it returns false'. Refute it at one input. -/
def fnExactNearGroupsWrong : ChangeSpec := { name := "fnExactNearGroups", fn := fun _ => fun
  | [d1, d2] => { results := [.lit (.bool false)], args := [d1, d2] }
  | _ => none }
def FnExactNearGroupsWrongFalsely : Prop := fnExactNearGroupsRow.holds Try.pinned (OpenSpec.ofChange fnExactNearGroupsWrong)

/-- 'laws.FnExactBestHubs': WHATEVER THE INPUT: true; the input reads as it did. -/
def fnExactBestHubsSpec : ChangeSpec := { name := "fnExactBestHubs", fn := fun _ => fun
  | [d1, d2, d3, d4] => { results := [.lit (.bool true)], args := [d1, d2, d3, d4] }
  | _ => none }
def fnExactBestHubsRow : OpenClaim := { program := "ytddnadipleknoaa", sum := "7749a2d79eb593b660b73fd9f0807037ee198e6606457dd5e4034d0b9a401d54", func := "loop.example/g01110/laws.FnExactBestHubs", spec := "fnExactBestHubs", unfollowed := true, recurses := true, apart := false }
def FnExactBestHubsSaid : Prop := fnExactBestHubsRow.holds Try.pinned (OpenSpec.ofChange fnExactBestHubsSpec)

/-- ITS FALSE NEIGHBOUR: 'it returns false'. Refute it at one input. -/
def fnExactBestHubsWrong : ChangeSpec := { name := "fnExactBestHubs", fn := fun _ => fun
  | [d1, d2, d3, d4] => { results := [.lit (.bool false)], args := [d1, d2, d3, d4] }
  | _ => none }
def FnExactBestHubsWrongFalsely : Prop := fnExactBestHubsRow.holds Try.pinned (OpenSpec.ofChange fnExactBestHubsWrong)

/- THE SECOND FORM. 'bulk': how many values and letters a reading holds, each counted each time it is reached (what is shared counts as often as it is met; a slice's spare places count too). A statement '..UptoSaid' is the law's where the arguments, and the package variables that the reading takes, are together of bulk at most 1048576: NARROWER than '..Said'. Prove '..Said' where nothing that the law and all that it calls make is longer than what came in: it says more and counts as full. Else prove '..UptoSaid'. A law counts once. -/
mutual
def uptoBulk {H : Type} : DataW H → Nat
  | .lit (.string bytes) => bytes.length + 1
  | .lit _ => 1
  | .nil => 1
  | .ptr d => uptoBulk d + 1
  | .slice elems spare => uptoBulkAll elems + uptoBulkAll spare + 1
  | .agg parts => uptoBulkAll parts + 1
  | .iface _ d => uptoBulk d + 1
  | .map entries => uptoBulkEntries entries + 1
  | .held _ => 1
def uptoBulkAll {H : Type} : List (DataW H) → Nat
  | [] => 0
  | d :: r => uptoBulk d + uptoBulkAll r
def uptoBulkEntries {H : Type} : List (Lit × DataW H) → Nat
  | [] => 0
  | x :: r => uptoBulkEntry x + uptoBulkEntries r
def uptoBulkEntry {H : Type} : Lit × DataW H → Nat
  | (.string bytes, d) => bytes.length + uptoBulk d + 1
  | (_, d) => uptoBulk d + 1
 end
def uptoSmall : (H : Type) → List (DataW H) → Bool := fun _ ds => decide (uptoBulkAll ds ≤ 1048576)
def OpenSpec.upto (s : _root_.Go.ChangeSpec) : _root_.Go.OpenSpec := { _root_.Go.OpenSpec.ofChange s with cond := some uptoSmall }

/-- 'laws.FnExactBestDispersion', WHERE WHAT IT READS IS OF BULK AT MOST 1048576: true; the input reads as it did. -/
def fnExactBestDispersionUptoRow : OpenClaim := { program := "ytddnadipleknoaa", sum := "7749a2d79eb593b660b73fd9f0807037ee198e6606457dd5e4034d0b9a401d54", func := "loop.example/g01110/laws.FnExactBestDispersion", spec := "fnExactBestDispersion", unfollowed := true, recurses := true, apart := false, narrowed := true }
def FnExactBestDispersionUptoSaid : Prop := fnExactBestDispersionUptoRow.holds Try.pinned (OpenSpec.upto fnExactBestDispersionSpec)

/-- 'laws.FnExactFarthestFirst', WHERE WHAT IT READS IS OF BULK AT MOST 1048576: true; the input reads as it did. -/
def fnExactFarthestFirstUptoRow : OpenClaim := { program := "ytddnadipleknoaa", sum := "7749a2d79eb593b660b73fd9f0807037ee198e6606457dd5e4034d0b9a401d54", func := "loop.example/g01110/laws.FnExactFarthestFirst", spec := "fnExactFarthestFirst", unfollowed := true, recurses := true, apart := false, narrowed := true }
def FnExactFarthestFirstUptoSaid : Prop := fnExactFarthestFirstUptoRow.holds Try.pinned (OpenSpec.upto fnExactFarthestFirstSpec)

/-- 'laws.FnExactNearGroups', WHERE WHAT IT READS IS OF BULK AT MOST 1048576: true; the input reads as it did. -/
def fnExactNearGroupsUptoRow : OpenClaim := { program := "ytddnadipleknoaa", sum := "7749a2d79eb593b660b73fd9f0807037ee198e6606457dd5e4034d0b9a401d54", func := "loop.example/g01110/laws.FnExactNearGroups", spec := "fnExactNearGroups", unfollowed := true, recurses := true, apart := false, narrowed := true }
def FnExactNearGroupsUptoSaid : Prop := fnExactNearGroupsUptoRow.holds Try.pinned (OpenSpec.upto fnExactNearGroupsSpec)

/-- 'laws.FnExactBestHubs', WHERE WHAT IT READS IS OF BULK AT MOST 1048576: true; the input reads as it did. -/
def fnExactBestHubsUptoRow : OpenClaim := { program := "ytddnadipleknoaa", sum := "7749a2d79eb593b660b73fd9f0807037ee198e6606457dd5e4034d0b9a401d54", func := "loop.example/g01110/laws.FnExactBestHubs", spec := "fnExactBestHubs", unfollowed := true, recurses := true, apart := false, narrowed := true }
def FnExactBestHubsUptoSaid : Prop := fnExactBestHubsUptoRow.holds Try.pinned (OpenSpec.upto fnExactBestHubsSpec)

end Rows
end Go.Proofs.Ytddnadipleknoaa
