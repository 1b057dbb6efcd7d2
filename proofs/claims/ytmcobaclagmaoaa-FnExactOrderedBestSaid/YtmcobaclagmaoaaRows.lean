/-
  No cell of these rows narrows 'for every input' (looked for: loops, veiled, ifaces, maps, wideKeys, modest, calm, conditions, laid).
  DERIVED. THE GIVEN ROWS OF THIS SEAT. 3 by the template 'for every input the law returns true; each argument reads behind the call as it read before'; 0 by the template 'total and deterministic' (their statements: YtmcobaclagmaoaaTotals.lean).
  GIVEN WITH THE SEED: the statements are not yours to turn. If you find one false, say at which input.
  Laid BY PROGRAM, IN A SANDBOX (cutbox-rows.mjs): the forced cells as the released guide's own fill.sh prints them over the translation 19e55af4c5d71bb1… (all of the seat's roots in one cut). By AI agents, Wed Nov 11 2026. No macro, syntax, notation, axiom, sorry.
-/
import Derived.Test.YtmcobaclagmaoaaChecked
import GoSem.Claim
import GoSem.ClaimJoined
import GoSem.ClaimMapViews
import Derived.JoinedTies
import Derived.KernelRfl
namespace Go.Proofs.Ytmcobaclagmaoaa
/- THE CELL 'sum', in the pinned program and in every row, IS THE sha256 OF THE DUMP (.gsa) THAT YtmcobaclagmaoaaProg.lean LOADS. Nothing in Lean hashes anything: it is a label: what it is worth is what the hold of that sum in a sandbox is worth. -/
noncomputable def Try.pinned : Pinned := { name := "ytmcobaclagmaoaa", sum := "19e55af4c5d71bb13a01c000ec17e70650726e4ffeade9b1c3c52ed92eb36601", checked := Try.checked }
namespace Rows
def none {H : Type} : Left H := { results := [], args := [] }

/-- 'laws.FnExactObjectiveOf': WHATEVER THE INPUT: true; the input reads as it did. -/
def fnExactObjectiveOfSpec : ChangeSpec := { name := "fnExactObjectiveOf", fn := fun _ => fun
  | [d1, d2, d3] => { results := [.lit (.bool true)], args := [d1, d2, d3] }
  | _ => none }
def fnExactObjectiveOfRow : OpenClaim := { program := "ytmcobaclagmaoaa", sum := "19e55af4c5d71bb13a01c000ec17e70650726e4ffeade9b1c3c52ed92eb36601", func := "loop.example/g01110/laws.FnExactObjectiveOf", spec := "fnExactObjectiveOf", unfollowed := true, recurses := true, apart := false }
def FnExactObjectiveOfSaid : Prop := fnExactObjectiveOfRow.holds Try.pinned (OpenSpec.ofChange fnExactObjectiveOfSpec)

/-- ITS FALSE NEIGHBOUR: 'it returns false'. Refute it at one input. -/
def fnExactObjectiveOfWrong : ChangeSpec := { name := "fnExactObjectiveOf", fn := fun _ => fun
  | [d1, d2, d3] => { results := [.lit (.bool false)], args := [d1, d2, d3] }
  | _ => none }
def FnExactObjectiveOfWrongFalsely : Prop := fnExactObjectiveOfRow.holds Try.pinned (OpenSpec.ofChange fnExactObjectiveOfWrong)

/-- 'laws.FnExactOrderedValue': WHATEVER THE INPUT: true; the input reads as it did. -/
def fnExactOrderedValueSpec : ChangeSpec := { name := "fnExactOrderedValue", fn := fun _ => fun
  | [d1, d2, d3] => { results := [.lit (.bool true)], args := [d1, d2, d3] }
  | _ => none }
def fnExactOrderedValueRow : OpenClaim := { program := "ytmcobaclagmaoaa", sum := "19e55af4c5d71bb13a01c000ec17e70650726e4ffeade9b1c3c52ed92eb36601", func := "loop.example/g01110/laws.FnExactOrderedValue", spec := "fnExactOrderedValue", unfollowed := true, recurses := true, apart := false }
def FnExactOrderedValueSaid : Prop := fnExactOrderedValueRow.holds Try.pinned (OpenSpec.ofChange fnExactOrderedValueSpec)

/-- ITS FALSE NEIGHBOUR: 'it returns false'. Refute it at one input. -/
def fnExactOrderedValueWrong : ChangeSpec := { name := "fnExactOrderedValue", fn := fun _ => fun
  | [d1, d2, d3] => { results := [.lit (.bool false)], args := [d1, d2, d3] }
  | _ => none }
def FnExactOrderedValueWrongFalsely : Prop := fnExactOrderedValueRow.holds Try.pinned (OpenSpec.ofChange fnExactOrderedValueWrong)

/-- 'laws.FnExactOrderedBest': WHATEVER THE INPUT: true; the input reads as it did. -/
def fnExactOrderedBestSpec : ChangeSpec := { name := "fnExactOrderedBest", fn := fun _ => fun
  | [d1, d2, d3] => { results := [.lit (.bool true)], args := [d1, d2, d3] }
  | _ => none }
def fnExactOrderedBestRow : OpenClaim := { program := "ytmcobaclagmaoaa", sum := "19e55af4c5d71bb13a01c000ec17e70650726e4ffeade9b1c3c52ed92eb36601", func := "loop.example/g01110/laws.FnExactOrderedBest", spec := "fnExactOrderedBest", unfollowed := true, recurses := true, apart := false }
def FnExactOrderedBestSaid : Prop := fnExactOrderedBestRow.holds Try.pinned (OpenSpec.ofChange fnExactOrderedBestSpec)

/-- ITS FALSE NEIGHBOUR: 'it returns false'. Refute it at one input. -/
def fnExactOrderedBestWrong : ChangeSpec := { name := "fnExactOrderedBest", fn := fun _ => fun
  | [d1, d2, d3] => { results := [.lit (.bool false)], args := [d1, d2, d3] }
  | _ => none }
def FnExactOrderedBestWrongFalsely : Prop := fnExactOrderedBestRow.holds Try.pinned (OpenSpec.ofChange fnExactOrderedBestWrong)

/- THE SECOND FORM. 'bulk': how many values and letters a reading holds, each counted each time it is reached (what is shared counts as often as it is met; a slice's spare places count too). A statement '..UptoSaid' is the law's where the arguments, and the package variables that the reading takes, are together of bulk at most 1048576: NARROWER than '..Said'. Prove '..Said' where nothing that the law and all that it calls make is longer than what came in: it says more and counts as full. Else prove '..UptoSaid'. A law counts once. -/
mutual
def uptoBulk {H : Type} : DataW H → Nat
  | .lit (.string bytes) => bytes.length + 1
  | .lit _ => 1
  | .nil => 1
  | .ptr d => uptoBulk d + 1
  | .slice elems spare => uptoBulkAll elems + uptoBulkAll spare + 1
  | .agg parts => uptoBulkAll parts + 1
  | .iface _ d => uptoBulk d + 1
  | .map entries => uptoBulkEntries entries + 1
  | .held _ => 1
def uptoBulkAll {H : Type} : List (DataW H) → Nat
  | [] => 0
  | d :: r => uptoBulk d + uptoBulkAll r
def uptoBulkEntries {H : Type} : List (Lit × DataW H) → Nat
  | [] => 0
  | x :: r => uptoBulkEntry x + uptoBulkEntries r
def uptoBulkEntry {H : Type} : Lit × DataW H → Nat
  | (.string bytes, d) => bytes.length + uptoBulk d + 1
  | (_, d) => uptoBulk d + 1
 end
def uptoSmall : (H : Type) → List (DataW H) → Bool := fun _ ds => decide (uptoBulkAll ds ≤ 1048576)
def OpenSpec.upto (s : _root_.Go.ChangeSpec) : _root_.Go.OpenSpec := { _root_.Go.OpenSpec.ofChange s with cond := some uptoSmall }

/-- 'laws.FnExactObjectiveOf', WHERE WHAT IT READS IS OF BULK AT MOST 1048576: true; the input reads as it did. -/
def fnExactObjectiveOfUptoRow : OpenClaim := { program := "ytmcobaclagmaoaa", sum := "19e55af4c5d71bb13a01c000ec17e70650726e4ffeade9b1c3c52ed92eb36601", func := "loop.example/g01110/laws.FnExactObjectiveOf", spec := "fnExactObjectiveOf", unfollowed := true, recurses := true, apart := false, narrowed := true }
def FnExactObjectiveOfUptoSaid : Prop := fnExactObjectiveOfUptoRow.holds Try.pinned (OpenSpec.upto fnExactObjectiveOfSpec)

/-- 'laws.FnExactOrderedValue', WHERE WHAT IT READS IS OF BULK AT MOST 1048576: true; the input reads as it did. -/
def fnExactOrderedValueUptoRow : OpenClaim := { program := "ytmcobaclagmaoaa", sum := "19e55af4c5d71bb13a01c000ec17e70650726e4ffeade9b1c3c52ed92eb36601", func := "loop.example/g01110/laws.FnExactOrderedValue", spec := "fnExactOrderedValue", unfollowed := true, recurses := true, apart := false, narrowed := true }
def FnExactOrderedValueUptoSaid : Prop := fnExactOrderedValueUptoRow.holds Try.pinned (OpenSpec.upto fnExactOrderedValueSpec)

/-- 'laws.FnExactOrderedBest', WHERE WHAT IT READS IS OF BULK AT MOST 1048576: true; the input reads as it did. -/
def fnExactOrderedBestUptoRow : OpenClaim := { program := "ytmcobaclagmaoaa", sum := "19e55af4c5d71bb13a01c000ec17e70650726e4ffeade9b1c3c52ed92eb36601", func := "loop.example/g01110/laws.FnExactOrderedBest", spec := "fnExactOrderedBest", unfollowed := true, recurses := true, apart := false, narrowed := true }
def FnExactOrderedBestUptoSaid : Prop := fnExactOrderedBestUptoRow.holds Try.pinned (OpenSpec.upto fnExactOrderedBestSpec)

end Rows
end Go.Proofs.Ytmcobaclagmaoaa
