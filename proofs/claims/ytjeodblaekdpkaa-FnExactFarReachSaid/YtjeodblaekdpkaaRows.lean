/-
  No cell of these rows narrows 'for every input' (looked for: loops, veiled, ifaces, maps, wideKeys, modest, calm, conditions, laid).
  DERIVED. THE GIVEN ROWS OF THIS SEAT. 6 by the template 'for every input the law returns true; each argument reads behind the call as it read before'; 0 by the template 'total and deterministic' (their statements: YtjeodblaekdpkaaTotals.lean).
  GIVEN WITH THE SEED: the statements are not yours to turn. If you find one false, say at which input.
  Laid BY PROGRAM, IN A SANDBOX (cutbox-rows.mjs): the forced cells as the released guide's own fill.sh prints them over the translation 09d8c9dfcb6352fa… (all of the seat's roots in one cut). By AI agents, Wed Nov 11 2026. No macro, syntax, notation, axiom, sorry.
-/
import Derived.Test.YtjeodblaekdpkaaChecked
import GoSem.Claim
import GoSem.ClaimJoined
import GoSem.ClaimMapViews
import Derived.JoinedTies
import Derived.KernelRfl
namespace Go.Proofs.Ytjeodblaekdpkaa
/- THE CELL 'sum', in the pinned program and in every row, IS THE sha256 OF THE DUMP (.gsa) THAT YtjeodblaekdpkaaProg.lean LOADS. Nothing in Lean hashes anything: it is a label: what it is worth is what the hold of that sum in a sandbox is worth. -/
noncomputable def Try.pinned : Pinned := { name := "ytjeodblaekdpkaa", sum := "09d8c9dfcb6352fa8ab707e472a06a0255e9ed9f430786473d96fea2349d8fc6", checked := Try.checked }
namespace Rows
def none {H : Type} : Left H := { results := [], args := [] }

/-- 'laws.FnExactRadiiOf': WHATEVER THE INPUT: true; the input reads as it did. -/
def fnExactRadiiOfSpec : ChangeSpec := { name := "fnExactRadiiOf", fn := fun _ => fun
  | [d1, d2] => { results := [.lit (.bool true)], args := [d1, d2] }
  | _ => none }
def fnExactRadiiOfRow : OpenClaim := { program := "ytjeodblaekdpkaa", sum := "09d8c9dfcb6352fa8ab707e472a06a0255e9ed9f430786473d96fea2349d8fc6", func := "loop.example/g01110/laws.FnExactRadiiOf", spec := "fnExactRadiiOf", unfollowed := true, recurses := true, apart := false }
def FnExactRadiiOfSaid : Prop := fnExactRadiiOfRow.holds Try.pinned (OpenSpec.ofChange fnExactRadiiOfSpec)

/-- ITS FALSE NEIGHBOUR: 'it returns false'. Refute it at one input. -/
def fnExactRadiiOfWrong : ChangeSpec := { name := "fnExactRadiiOf", fn := fun _ => fun
  | [d1, d2] => { results := [.lit (.bool false)], args := [d1, d2] }
  | _ => none }
def FnExactRadiiOfWrongFalsely : Prop := fnExactRadiiOfRow.holds Try.pinned (OpenSpec.ofChange fnExactRadiiOfWrong)

/-- 'laws.FnExactJoinFields': WHATEVER THE INPUT: true; the input reads as it did. -/
def fnExactJoinFieldsSpec : ChangeSpec := { name := "fnExactJoinFields", fn := fun _ => fun
  | [d1, d2] => { results := [.lit (.bool true)], args := [d1, d2] }
  | _ => none }
def fnExactJoinFieldsRow : OpenClaim := { program := "ytjeodblaekdpkaa", sum := "09d8c9dfcb6352fa8ab707e472a06a0255e9ed9f430786473d96fea2349d8fc6", func := "loop.example/g01110/laws.FnExactJoinFields", spec := "fnExactJoinFields", unfollowed := true, recurses := true, apart := false }
def FnExactJoinFieldsSaid : Prop := fnExactJoinFieldsRow.holds Try.pinned (OpenSpec.ofChange fnExactJoinFieldsSpec)

/-- ITS FALSE NEIGHBOUR: 'it returns false'. Refute it at one input. -/
def fnExactJoinFieldsWrong : ChangeSpec := { name := "fnExactJoinFields", fn := fun _ => fun
  | [d1, d2] => { results := [.lit (.bool false)], args := [d1, d2] }
  | _ => none }
def FnExactJoinFieldsWrongFalsely : Prop := fnExactJoinFieldsRow.holds Try.pinned (OpenSpec.ofChange fnExactJoinFieldsWrong)

/-- 'laws.FnExactCoveringSites': WHATEVER THE INPUT: true; the input reads as it did. -/
def fnExactCoveringSitesSpec : ChangeSpec := { name := "fnExactCoveringSites", fn := fun _ => fun
  | [d1, d2] => { results := [.lit (.bool true)], args := [d1, d2] }
  | _ => none }
def fnExactCoveringSitesRow : OpenClaim := { program := "ytjeodblaekdpkaa", sum := "09d8c9dfcb6352fa8ab707e472a06a0255e9ed9f430786473d96fea2349d8fc6", func := "loop.example/g01110/laws.FnExactCoveringSites", spec := "fnExactCoveringSites", unfollowed := true, recurses := true, apart := false }
def FnExactCoveringSitesSaid : Prop := fnExactCoveringSitesRow.holds Try.pinned (OpenSpec.ofChange fnExactCoveringSitesSpec)

/-- ITS FALSE NEIGHBOUR: 'it returns false'. Refute it at one input. -/
def fnExactCoveringSitesWrong : ChangeSpec := { name := "fnExactCoveringSites", fn := fun _ => fun
  | [d1, d2] => { results := [.lit (.bool false)], args := [d1, d2] }
  | _ => none }
def FnExactCoveringSitesWrongFalsely : Prop := fnExactCoveringSitesRow.holds Try.pinned (OpenSpec.ofChange fnExactCoveringSitesWrong)

/-- 'laws.FnExactLargestFar': WHATEVER THE INPUT: true; the input reads as it did. -/
def fnExactLargestFarSpec : ChangeSpec := { name := "fnExactLargestFar", fn := fun _ => fun
  | [d1, d2] => { results := [.lit (.bool true)], args := [d1, d2] }
  | _ => none }
def fnExactLargestFarRow : OpenClaim := { program := "ytjeodblaekdpkaa", sum := "09d8c9dfcb6352fa8ab707e472a06a0255e9ed9f430786473d96fea2349d8fc6", func := "loop.example/g01110/laws.FnExactLargestFar", spec := "fnExactLargestFar", unfollowed := true, recurses := true, apart := false }
def FnExactLargestFarSaid : Prop := fnExactLargestFarRow.holds Try.pinned (OpenSpec.ofChange fnExactLargestFarSpec)

/-- ITS FALSE NEIGHBOUR: 'it returns false'. Refute it at one input. -/
def fnExactLargestFarWrong : ChangeSpec := { name := "fnExactLargestFar", fn := fun _ => fun
  | [d1, d2] => { results := [.lit (.bool false)], args := [d1, d2] }
  | _ => none }
def FnExactLargestFarWrongFalsely : Prop := fnExactLargestFarRow.holds Try.pinned (OpenSpec.ofChange fnExactLargestFarWrong)

/-- 'laws.FnExactFarReach': WHATEVER THE INPUT: true; the input reads as it did. -/
def fnExactFarReachSpec : ChangeSpec := { name := "fnExactFarReach", fn := fun _ => fun
  | [d1, d2] => { results := [.lit (.bool true)], args := [d1, d2] }
  | _ => none }
def fnExactFarReachRow : OpenClaim := { program := "ytjeodblaekdpkaa", sum := "09d8c9dfcb6352fa8ab707e472a06a0255e9ed9f430786473d96fea2349d8fc6", func := "loop.example/g01110/laws.FnExactFarReach", spec := "fnExactFarReach", unfollowed := true, recurses := true, apart := false }
def FnExactFarReachSaid : Prop := fnExactFarReachRow.holds Try.pinned (OpenSpec.ofChange fnExactFarReachSpec)

/-- ITS FALSE NEIGHBOUR: 'it returns false'. Refute it at one input. -/
def fnExactFarReachWrong : ChangeSpec := { name := "fnExactFarReach", fn := fun _ => fun
  | [d1, d2] => { results := [.lit (.bool false)], args := [d1, d2] }
  | _ => none }
def FnExactFarReachWrongFalsely : Prop := fnExactFarReachRow.holds Try.pinned (OpenSpec.ofChange fnExactFarReachWrong)

/-- 'laws.FnExactLineSites': WHATEVER THE INPUT: true; the input reads as it did. -/
def fnExactLineSitesSpec : ChangeSpec := { name := "fnExactLineSites", fn := fun _ => fun
  | [d1, d2, d3] => { results := [.lit (.bool true)], args := [d1, d2, d3] }
  | _ => none }
def fnExactLineSitesRow : OpenClaim := { program := "ytjeodblaekdpkaa", sum := "09d8c9dfcb6352fa8ab707e472a06a0255e9ed9f430786473d96fea2349d8fc6", func := "loop.example/g01110/laws.FnExactLineSites", spec := "fnExactLineSites", unfollowed := true, recurses := true, apart := false }
def FnExactLineSitesSaid : Prop := fnExactLineSitesRow.holds Try.pinned (OpenSpec.ofChange fnExactLineSitesSpec)

/-- ITS FALSE NEIGHBOUR: 'it returns false'. Refute it at one input. -/
def fnExactLineSitesWrong : ChangeSpec := { name := "fnExactLineSites", fn := fun _ => fun
  | [d1, d2, d3] => { results := [.lit (.bool false)], args := [d1, d2, d3] }
  | _ => none }
def FnExactLineSitesWrongFalsely : Prop := fnExactLineSitesRow.holds Try.pinned (OpenSpec.ofChange fnExactLineSitesWrong)

/- THE SECOND FORM. 'bulk': how many values and letters a reading holds, each counted each time it is reached (what is shared counts as often as it is met; a slice's spare places count too). A statement '..UptoSaid' is the law's where the arguments, and the package variables that the reading takes, are together of bulk at most 1048576: NARROWER than '..Said'. Prove '..Said' where nothing that the law and all that it calls make is longer than what came in: it says more and counts as full. Else prove '..UptoSaid'. A law counts once. -/
mutual
def uptoBulk {H : Type} : DataW H → Nat
  | .lit (.string bytes) => bytes.length + 1
  | .lit _ => 1
  | .nil => 1
  | .ptr d => uptoBulk d + 1
  | .slice elems spare => uptoBulkAll elems + uptoBulkAll spare + 1
  | .agg parts => uptoBulkAll parts + 1
  | .iface _ d => uptoBulk d + 1
  | .map entries => uptoBulkEntries entries + 1
  | .held _ => 1
def uptoBulkAll {H : Type} : List (DataW H) → Nat
  | [] => 0
  | d :: r => uptoBulk d + uptoBulkAll r
def uptoBulkEntries {H : Type} : List (Lit × DataW H) → Nat
  | [] => 0
  | x :: r => uptoBulkEntry x + uptoBulkEntries r
def uptoBulkEntry {H : Type} : Lit × DataW H → Nat
  | (.string bytes, d) => bytes.length + uptoBulk d + 1
  | (_, d) => uptoBulk d + 1
 end
def uptoSmall : (H : Type) → List (DataW H) → Bool := fun _ ds => decide (uptoBulkAll ds ≤ 1048576)
def OpenSpec.upto (s : _root_.Go.ChangeSpec) : _root_.Go.OpenSpec := { _root_.Go.OpenSpec.ofChange s with cond := some uptoSmall }

/-- 'laws.FnExactRadiiOf', WHERE WHAT IT READS IS OF BULK AT MOST 1048576: true; the input reads as it did. -/
def fnExactRadiiOfUptoRow : OpenClaim := { program := "ytjeodblaekdpkaa", sum := "09d8c9dfcb6352fa8ab707e472a06a0255e9ed9f430786473d96fea2349d8fc6", func := "loop.example/g01110/laws.FnExactRadiiOf", spec := "fnExactRadiiOf", unfollowed := true, recurses := true, apart := false, narrowed := true }
def FnExactRadiiOfUptoSaid : Prop := fnExactRadiiOfUptoRow.holds Try.pinned (OpenSpec.upto fnExactRadiiOfSpec)

/-- 'laws.FnExactJoinFields', WHERE WHAT IT READS IS OF BULK AT MOST 1048576: true; the input reads as it did. -/
def fnExactJoinFieldsUptoRow : OpenClaim := { program := "ytjeodblaekdpkaa", sum := "09d8c9dfcb6352fa8ab707e472a06a0255e9ed9f430786473d96fea2349d8fc6", func := "loop.example/g01110/laws.FnExactJoinFields", spec := "fnExactJoinFields", unfollowed := true, recurses := true, apart := false, narrowed := true }
def FnExactJoinFieldsUptoSaid : Prop := fnExactJoinFieldsUptoRow.holds Try.pinned (OpenSpec.upto fnExactJoinFieldsSpec)

/-- 'laws.FnExactCoveringSites', WHERE WHAT IT READS IS OF BULK AT MOST 1048576: true; the input reads as it did. -/
def fnExactCoveringSitesUptoRow : OpenClaim := { program := "ytjeodblaekdpkaa", sum := "09d8c9dfcb6352fa8ab707e472a06a0255e9ed9f430786473d96fea2349d8fc6", func := "loop.example/g01110/laws.FnExactCoveringSites", spec := "fnExactCoveringSites", unfollowed := true, recurses := true, apart := false, narrowed := true }
def FnExactCoveringSitesUptoSaid : Prop := fnExactCoveringSitesUptoRow.holds Try.pinned (OpenSpec.upto fnExactCoveringSitesSpec)

/-- 'laws.FnExactLargestFar', WHERE WHAT IT READS IS OF BULK AT MOST 1048576: true; the input reads as it did. -/
def fnExactLargestFarUptoRow : OpenClaim := { program := "ytjeodblaekdpkaa", sum := "09d8c9dfcb6352fa8ab707e472a06a0255e9ed9f430786473d96fea2349d8fc6", func := "loop.example/g01110/laws.FnExactLargestFar", spec := "fnExactLargestFar", unfollowed := true, recurses := true, apart := false, narrowed := true }
def FnExactLargestFarUptoSaid : Prop := fnExactLargestFarUptoRow.holds Try.pinned (OpenSpec.upto fnExactLargestFarSpec)

/-- 'laws.FnExactFarReach', WHERE WHAT IT READS IS OF BULK AT MOST 1048576: true; the input reads as it did. -/
def fnExactFarReachUptoRow : OpenClaim := { program := "ytjeodblaekdpkaa", sum := "09d8c9dfcb6352fa8ab707e472a06a0255e9ed9f430786473d96fea2349d8fc6", func := "loop.example/g01110/laws.FnExactFarReach", spec := "fnExactFarReach", unfollowed := true, recurses := true, apart := false, narrowed := true }
def FnExactFarReachUptoSaid : Prop := fnExactFarReachUptoRow.holds Try.pinned (OpenSpec.upto fnExactFarReachSpec)

/-- 'laws.FnExactLineSites', WHERE WHAT IT READS IS OF BULK AT MOST 1048576: true; the input reads as it did. -/
def fnExactLineSitesUptoRow : OpenClaim := { program := "ytjeodblaekdpkaa", sum := "09d8c9dfcb6352fa8ab707e472a06a0255e9ed9f430786473d96fea2349d8fc6", func := "loop.example/g01110/laws.FnExactLineSites", spec := "fnExactLineSites", unfollowed := true, recurses := true, apart := false, narrowed := true }
def FnExactLineSitesUptoSaid : Prop := fnExactLineSitesUptoRow.holds Try.pinned (OpenSpec.upto fnExactLineSitesSpec)

end Rows
end Go.Proofs.Ytjeodblaekdpkaa
