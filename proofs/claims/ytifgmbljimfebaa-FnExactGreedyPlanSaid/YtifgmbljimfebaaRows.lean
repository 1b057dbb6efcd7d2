/-
  No cell of these rows narrows 'for every input' (looked for: loops, veiled, ifaces, maps, wideKeys, modest, calm, conditions, laid).
  DERIVED. THE GIVEN ROWS OF THIS SEAT. 4 by the template 'for every input the law returns true; each argument reads behind the call as it read before'; 0 by the template 'total and deterministic' (their statements: YtifgmbljimfebaaTotals.lean).
  GIVEN WITH THE SEED: the statements are not yours to turn. If you find one false, say at which input.
  Laid BY PROGRAM, IN A SANDBOX (cutbox-rows.mjs): the forced cells as the released guide's own fill.sh prints them over the translation 33cc5332350f135e… (all of the seat's roots in one cut). By AI agents, Wed Nov 11 2026. No macro, syntax, notation, axiom, sorry.
-/
import Derived.Test.YtifgmbljimfebaaChecked
import GoSem.Claim
import GoSem.ClaimJoined
import GoSem.ClaimMapViews
import Derived.JoinedTies
import Derived.KernelRfl
namespace Go.Proofs.Ytifgmbljimfebaa
/- THE CELL 'sum', in the pinned program and in every row, IS THE sha256 OF THE DUMP (.gsa) THAT YtifgmbljimfebaaProg.lean LOADS. Nothing in Lean hashes anything: it is a label: what it is worth is what the hold of that sum in a sandbox is worth. -/
noncomputable def Try.pinned : Pinned := { name := "ytifgmbljimfebaa", sum := "33cc5332350f135e7f62276231e835150a8086586e87937dfba94349472e7046", checked := Try.checked }
namespace Rows
def none {H : Type} : Left H := { results := [], args := [] }

/-- 'laws.FnExactArePotentials': WHATEVER THE INPUT: true; the input reads as it did. -/
def fnExactArePotentialsSpec : ChangeSpec := { name := "fnExactArePotentials", fn := fun _ => fun
  | [d1, d2] => { results := [.lit (.bool true)], args := [d1, d2] }
  | _ => none }
def fnExactArePotentialsRow : OpenClaim := { program := "ytifgmbljimfebaa", sum := "33cc5332350f135e7f62276231e835150a8086586e87937dfba94349472e7046", func := "loop.example/g01110/laws.FnExactArePotentials", spec := "fnExactArePotentials", unfollowed := true, recurses := true, apart := false }
def FnExactArePotentialsSaid : Prop := fnExactArePotentialsRow.holds Try.pinned (OpenSpec.ofChange fnExactArePotentialsSpec)

/-- ITS FALSE NEIGHBOUR: 'it returns false'. Refute it at one input. -/
def fnExactArePotentialsWrong : ChangeSpec := { name := "fnExactArePotentials", fn := fun _ => fun
  | [d1, d2] => { results := [.lit (.bool false)], args := [d1, d2] }
  | _ => none }
def FnExactArePotentialsWrongFalsely : Prop := fnExactArePotentialsRow.holds Try.pinned (OpenSpec.ofChange fnExactArePotentialsWrong)

/-- 'laws.FnExactPlanProof': WHATEVER THE INPUT: true; the input reads as it did. -/
def fnExactPlanProofSpec : ChangeSpec := { name := "fnExactPlanProof", fn := fun _ => fun
  | [d1, d2, d3] => { results := [.lit (.bool true)], args := [d1, d2, d3] }
  | _ => none }
def fnExactPlanProofRow : OpenClaim := { program := "ytifgmbljimfebaa", sum := "33cc5332350f135e7f62276231e835150a8086586e87937dfba94349472e7046", func := "loop.example/g01110/laws.FnExactPlanProof", spec := "fnExactPlanProof", unfollowed := true, recurses := true, apart := false }
def FnExactPlanProofSaid : Prop := fnExactPlanProofRow.holds Try.pinned (OpenSpec.ofChange fnExactPlanProofSpec)

/-- ITS FALSE NEIGHBOUR: 'it returns false'. Refute it at one input. -/
def fnExactPlanProofWrong : ChangeSpec := { name := "fnExactPlanProof", fn := fun _ => fun
  | [d1, d2, d3] => { results := [.lit (.bool false)], args := [d1, d2, d3] }
  | _ => none }
def FnExactPlanProofWrongFalsely : Prop := fnExactPlanProofRow.holds Try.pinned (OpenSpec.ofChange fnExactPlanProofWrong)

/-- 'laws.FnExactGreedyPlan': WHATEVER THE INPUT: true; the input reads as it did. -/
def fnExactGreedyPlanSpec : ChangeSpec := { name := "fnExactGreedyPlan", fn := fun _ => fun
  | [d] => { results := [.lit (.bool true)], args := [d] }
  | _ => none }
def fnExactGreedyPlanRow : OpenClaim := { program := "ytifgmbljimfebaa", sum := "33cc5332350f135e7f62276231e835150a8086586e87937dfba94349472e7046", func := "loop.example/g01110/laws.FnExactGreedyPlan", spec := "fnExactGreedyPlan", unfollowed := true, recurses := true, apart := false }
def FnExactGreedyPlanSaid : Prop := fnExactGreedyPlanRow.holds Try.pinned (OpenSpec.ofChange fnExactGreedyPlanSpec)

/-- ITS FALSE NEIGHBOUR: 'it returns false'. Refute it at one input. -/
def fnExactGreedyPlanWrong : ChangeSpec := { name := "fnExactGreedyPlan", fn := fun _ => fun
  | [d] => { results := [.lit (.bool false)], args := [d] }
  | _ => none }
def FnExactGreedyPlanWrongFalsely : Prop := fnExactGreedyPlanRow.holds Try.pinned (OpenSpec.ofChange fnExactGreedyPlanWrong)

/-- 'laws.FnExactStaticPlan': WHATEVER THE INPUT: true; the input reads as it did. -/
def fnExactStaticPlanSpec : ChangeSpec := { name := "fnExactStaticPlan", fn := fun _ => fun
  | [d] => { results := [.lit (.bool true)], args := [d] }
  | _ => none }
def fnExactStaticPlanRow : OpenClaim := { program := "ytifgmbljimfebaa", sum := "33cc5332350f135e7f62276231e835150a8086586e87937dfba94349472e7046", func := "loop.example/g01110/laws.FnExactStaticPlan", spec := "fnExactStaticPlan", unfollowed := true, recurses := true, apart := false }
def FnExactStaticPlanSaid : Prop := fnExactStaticPlanRow.holds Try.pinned (OpenSpec.ofChange fnExactStaticPlanSpec)

/-- ITS FALSE NEIGHBOUR: 'it returns false'. Refute it at one input. -/
def fnExactStaticPlanWrong : ChangeSpec := { name := "fnExactStaticPlan", fn := fun _ => fun
  | [d] => { results := [.lit (.bool false)], args := [d] }
  | _ => none }
def FnExactStaticPlanWrongFalsely : Prop := fnExactStaticPlanRow.holds Try.pinned (OpenSpec.ofChange fnExactStaticPlanWrong)

/- THE SECOND FORM. 'bulk': how many values and letters a reading holds, each counted each time it is reached (what is shared counts as often as it is met; a slice's spare places count too). A statement '..UptoSaid' is the law's where the arguments, and the package variables that the reading takes, are together of bulk at most 1048576: NARROWER than '..Said'. Prove '..Said' where nothing that the law and all that it calls make is longer than what came in: it says more and counts as full. Else prove '..UptoSaid'. A law counts once. -/
mutual
def uptoBulk {H : Type} : DataW H → Nat
  | .lit (.string bytes) => bytes.length + 1
  | .lit _ => 1
  | .nil => 1
  | .ptr d => uptoBulk d + 1
  | .slice elems spare => uptoBulkAll elems + uptoBulkAll spare + 1
  | .agg parts => uptoBulkAll parts + 1
  | .iface _ d => uptoBulk d + 1
  | .map entries => uptoBulkEntries entries + 1
  | .held _ => 1
def uptoBulkAll {H : Type} : List (DataW H) → Nat
  | [] => 0
  | d :: r => uptoBulk d + uptoBulkAll r
def uptoBulkEntries {H : Type} : List (Lit × DataW H) → Nat
  | [] => 0
  | x :: r => uptoBulkEntry x + uptoBulkEntries r
def uptoBulkEntry {H : Type} : Lit × DataW H → Nat
  | (.string bytes, d) => bytes.length + uptoBulk d + 1
  | (_, d) => uptoBulk d + 1
 end
def uptoSmall : (H : Type) → List (DataW H) → Bool := fun _ ds => decide (uptoBulkAll ds ≤ 1048576)
def OpenSpec.upto (s : _root_.Go.ChangeSpec) : _root_.Go.OpenSpec := { _root_.Go.OpenSpec.ofChange s with cond := some uptoSmall }

/-- 'laws.FnExactArePotentials', WHERE WHAT IT READS IS OF BULK AT MOST 1048576: true; the input reads as it did. -/
def fnExactArePotentialsUptoRow : OpenClaim := { program := "ytifgmbljimfebaa", sum := "33cc5332350f135e7f62276231e835150a8086586e87937dfba94349472e7046", func := "loop.example/g01110/laws.FnExactArePotentials", spec := "fnExactArePotentials", unfollowed := true, recurses := true, apart := false, narrowed := true }
def FnExactArePotentialsUptoSaid : Prop := fnExactArePotentialsUptoRow.holds Try.pinned (OpenSpec.upto fnExactArePotentialsSpec)

/-- 'laws.FnExactPlanProof', WHERE WHAT IT READS IS OF BULK AT MOST 1048576: true; the input reads as it did. -/
def fnExactPlanProofUptoRow : OpenClaim := { program := "ytifgmbljimfebaa", sum := "33cc5332350f135e7f62276231e835150a8086586e87937dfba94349472e7046", func := "loop.example/g01110/laws.FnExactPlanProof", spec := "fnExactPlanProof", unfollowed := true, recurses := true, apart := false, narrowed := true }
def FnExactPlanProofUptoSaid : Prop := fnExactPlanProofUptoRow.holds Try.pinned (OpenSpec.upto fnExactPlanProofSpec)

/-- 'laws.FnExactGreedyPlan', WHERE WHAT IT READS IS OF BULK AT MOST 1048576: true; the input reads as it did. -/
def fnExactGreedyPlanUptoRow : OpenClaim := { program := "ytifgmbljimfebaa", sum := "33cc5332350f135e7f62276231e835150a8086586e87937dfba94349472e7046", func := "loop.example/g01110/laws.FnExactGreedyPlan", spec := "fnExactGreedyPlan", unfollowed := true, recurses := true, apart := false, narrowed := true }
def FnExactGreedyPlanUptoSaid : Prop := fnExactGreedyPlanUptoRow.holds Try.pinned (OpenSpec.upto fnExactGreedyPlanSpec)

/-- 'laws.FnExactStaticPlan', WHERE WHAT IT READS IS OF BULK AT MOST 1048576: true; the input reads as it did. -/
def fnExactStaticPlanUptoRow : OpenClaim := { program := "ytifgmbljimfebaa", sum := "33cc5332350f135e7f62276231e835150a8086586e87937dfba94349472e7046", func := "loop.example/g01110/laws.FnExactStaticPlan", spec := "fnExactStaticPlan", unfollowed := true, recurses := true, apart := false, narrowed := true }
def FnExactStaticPlanUptoSaid : Prop := fnExactStaticPlanUptoRow.holds Try.pinned (OpenSpec.upto fnExactStaticPlanSpec)

end Rows
end Go.Proofs.Ytifgmbljimfebaa
