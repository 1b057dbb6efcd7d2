/-
  No cell of these rows narrows 'for every input' (looked for: loops, veiled, ifaces, maps, wideKeys, modest, calm, conditions, laid).
  DERIVED. THE GIVEN ROWS OF THIS SEAT. 7 by the template 'for every input the law returns true; each argument reads behind the call as it read before'; 0 by the template 'total and deterministic' (their statements: YtcameijabkpcaaaTotals.lean).
  GIVEN WITH THE SEED: the statements are not yours to turn. If you find one false, say at which input.
  Laid BY PROGRAM, IN A SANDBOX (cutbox-rows.mjs): the forced cells as the released guide's own fill.sh prints them over the translation 4a81dd8669008d85… (all of the seat's roots in one cut). By AI agents, Wed Nov 11 2026. No macro, syntax, notation, axiom, sorry.
-/
import Derived.Test.YtcameijabkpcaaaChecked
import GoSem.Claim
import GoSem.ClaimJoined
import GoSem.ClaimMapViews
import Derived.JoinedTies
import Derived.KernelRfl
namespace Go.Proofs.Ytcameijabkpcaaa
/- THE CELL 'sum', in the pinned program and in every row, IS THE sha256 OF THE DUMP (.gsa) THAT YtcameijabkpcaaaProg.lean LOADS. Nothing in Lean hashes anything: it is a label: what it is worth is what the hold of that sum in a sandbox is worth. -/
noncomputable def Try.pinned : Pinned := { name := "ytcameijabkpcaaa", sum := "4a81dd8669008d854867ae20c256cd7eda843962b598b8438b082ca1c0797c93", checked := Try.checked }
namespace Rows
def none {H : Type} : Left H := { results := [], args := [] }

/-- 'laws.FnExactBestSet': WHATEVER THE INPUT: true; the input reads as it did. -/
def fnExactBestSetSpec : ChangeSpec := { name := "fnExactBestSet", fn := fun _ => fun
  | [d] => { results := [.lit (.bool true)], args := [d] }
  | _ => none }
def fnExactBestSetRow : OpenClaim := { program := "ytcameijabkpcaaa", sum := "4a81dd8669008d854867ae20c256cd7eda843962b598b8438b082ca1c0797c93", func := "loop.example/g01110/laws.FnExactBestSet", spec := "fnExactBestSet", unfollowed := true, recurses := true, apart := false }
def FnExactBestSetSaid : Prop := fnExactBestSetRow.holds Try.pinned (OpenSpec.ofChange fnExactBestSetSpec)

/-- ITS FALSE NEIGHBOUR: 'it returns false'. Refute it at one input. -/
def fnExactBestSetWrong : ChangeSpec := { name := "fnExactBestSet", fn := fun _ => fun
  | [d] => { results := [.lit (.bool false)], args := [d] }
  | _ => none }
def FnExactBestSetWrongFalsely : Prop := fnExactBestSetRow.holds Try.pinned (OpenSpec.ofChange fnExactBestSetWrong)

/-- 'laws.FnExactBestTotal': WHATEVER THE INPUT: true; the input reads as it did. -/
def fnExactBestTotalSpec : ChangeSpec := { name := "fnExactBestTotal", fn := fun _ => fun
  | [d] => { results := [.lit (.bool true)], args := [d] }
  | _ => none }
def fnExactBestTotalRow : OpenClaim := { program := "ytcameijabkpcaaa", sum := "4a81dd8669008d854867ae20c256cd7eda843962b598b8438b082ca1c0797c93", func := "loop.example/g01110/laws.FnExactBestTotal", spec := "fnExactBestTotal", unfollowed := true, recurses := true, apart := false }
def FnExactBestTotalSaid : Prop := fnExactBestTotalRow.holds Try.pinned (OpenSpec.ofChange fnExactBestTotalSpec)

/-- ITS FALSE NEIGHBOUR: 'it returns false'. Refute it at one input. -/
def fnExactBestTotalWrong : ChangeSpec := { name := "fnExactBestTotal", fn := fun _ => fun
  | [d] => { results := [.lit (.bool false)], args := [d] }
  | _ => none }
def FnExactBestTotalWrongFalsely : Prop := fnExactBestTotalRow.holds Try.pinned (OpenSpec.ofChange fnExactBestTotalWrong)

/-- 'laws.FnExactMedianOf': WHATEVER THE INPUT: true; the input reads as it did. -/
def fnExactMedianOfSpec : ChangeSpec := { name := "fnExactMedianOf", fn := fun _ => fun
  | [d1, d2] => { results := [.lit (.bool true)], args := [d1, d2] }
  | _ => none }
def fnExactMedianOfRow : OpenClaim := { program := "ytcameijabkpcaaa", sum := "4a81dd8669008d854867ae20c256cd7eda843962b598b8438b082ca1c0797c93", func := "loop.example/g01110/laws.FnExactMedianOf", spec := "fnExactMedianOf", unfollowed := true, recurses := true, apart := false }
def FnExactMedianOfSaid : Prop := fnExactMedianOfRow.holds Try.pinned (OpenSpec.ofChange fnExactMedianOfSpec)

/-- ITS FALSE NEIGHBOUR: 'it returns false'. Refute it at one input. -/
def fnExactMedianOfWrong : ChangeSpec := { name := "fnExactMedianOf", fn := fun _ => fun
  | [d1, d2] => { results := [.lit (.bool false)], args := [d1, d2] }
  | _ => none }
def FnExactMedianOfWrongFalsely : Prop := fnExactMedianOfRow.holds Try.pinned (OpenSpec.ofChange fnExactMedianOfWrong)

/-- 'laws.FnExactMedianValue': WHATEVER THE INPUT: true; the input reads as it did. -/
def fnExactMedianValueSpec : ChangeSpec := { name := "fnExactMedianValue", fn := fun _ => fun
  | [d1, d2] => { results := [.lit (.bool true)], args := [d1, d2] }
  | _ => none }
def fnExactMedianValueRow : OpenClaim := { program := "ytcameijabkpcaaa", sum := "4a81dd8669008d854867ae20c256cd7eda843962b598b8438b082ca1c0797c93", func := "loop.example/g01110/laws.FnExactMedianValue", spec := "fnExactMedianValue", unfollowed := true, recurses := true, apart := false }
def FnExactMedianValueSaid : Prop := fnExactMedianValueRow.holds Try.pinned (OpenSpec.ofChange fnExactMedianValueSpec)

/-- ITS FALSE NEIGHBOUR: 'it returns false'. Refute it at one input. -/
def fnExactMedianValueWrong : ChangeSpec := { name := "fnExactMedianValue", fn := fun _ => fun
  | [d1, d2] => { results := [.lit (.bool false)], args := [d1, d2] }
  | _ => none }
def FnExactMedianValueWrongFalsely : Prop := fnExactMedianValueRow.holds Try.pinned (OpenSpec.ofChange fnExactMedianValueWrong)

/-- 'laws.FnExactMedianSteps': WHATEVER THE INPUT: true; the input reads as it did. -/
def fnExactMedianStepsSpec : ChangeSpec := { name := "fnExactMedianSteps", fn := fun _ => fun
  | [d] => { results := [.lit (.bool true)], args := [d] }
  | _ => none }
def fnExactMedianStepsRow : OpenClaim := { program := "ytcameijabkpcaaa", sum := "4a81dd8669008d854867ae20c256cd7eda843962b598b8438b082ca1c0797c93", func := "loop.example/g01110/laws.FnExactMedianSteps", spec := "fnExactMedianSteps", unfollowed := true, recurses := true, apart := false }
def FnExactMedianStepsSaid : Prop := fnExactMedianStepsRow.holds Try.pinned (OpenSpec.ofChange fnExactMedianStepsSpec)

/-- ITS FALSE NEIGHBOUR: 'it returns false'. Refute it at one input. -/
def fnExactMedianStepsWrong : ChangeSpec := { name := "fnExactMedianSteps", fn := fun _ => fun
  | [d] => { results := [.lit (.bool false)], args := [d] }
  | _ => none }
def FnExactMedianStepsWrongFalsely : Prop := fnExactMedianStepsRow.holds Try.pinned (OpenSpec.ofChange fnExactMedianStepsWrong)

/-- 'laws.FnExactBestPrice': WHATEVER THE INPUT: true; the input reads as it did. -/
def fnExactBestPriceSpec : ChangeSpec := { name := "fnExactBestPrice", fn := fun _ => fun
  | [d1, d2] => { results := [.lit (.bool true)], args := [d1, d2] }
  | _ => none }
def fnExactBestPriceRow : OpenClaim := { program := "ytcameijabkpcaaa", sum := "4a81dd8669008d854867ae20c256cd7eda843962b598b8438b082ca1c0797c93", func := "loop.example/g01110/laws.FnExactBestPrice", spec := "fnExactBestPrice", unfollowed := true, recurses := true, apart := false }
def FnExactBestPriceSaid : Prop := fnExactBestPriceRow.holds Try.pinned (OpenSpec.ofChange fnExactBestPriceSpec)

/-- ITS FALSE NEIGHBOUR: 'it returns false'. Refute it at one input. -/
def fnExactBestPriceWrong : ChangeSpec := { name := "fnExactBestPrice", fn := fun _ => fun
  | [d1, d2] => { results := [.lit (.bool false)], args := [d1, d2] }
  | _ => none }
def FnExactBestPriceWrongFalsely : Prop := fnExactBestPriceRow.holds Try.pinned (OpenSpec.ofChange fnExactBestPriceWrong)

/-- 'laws.FnExactPriceBound': WHATEVER THE INPUT: true; the input reads as it did. -/
def fnExactPriceBoundSpec : ChangeSpec := { name := "fnExactPriceBound", fn := fun _ => fun
  | [d1, d2, d3] => { results := [.lit (.bool true)], args := [d1, d2, d3] }
  | _ => none }
def fnExactPriceBoundRow : OpenClaim := { program := "ytcameijabkpcaaa", sum := "4a81dd8669008d854867ae20c256cd7eda843962b598b8438b082ca1c0797c93", func := "loop.example/g01110/laws.FnExactPriceBound", spec := "fnExactPriceBound", unfollowed := true, recurses := true, apart := false }
def FnExactPriceBoundSaid : Prop := fnExactPriceBoundRow.holds Try.pinned (OpenSpec.ofChange fnExactPriceBoundSpec)

/-- ITS FALSE NEIGHBOUR: 'it returns false'. Refute it at one input. -/
def fnExactPriceBoundWrong : ChangeSpec := { name := "fnExactPriceBound", fn := fun _ => fun
  | [d1, d2, d3] => { results := [.lit (.bool false)], args := [d1, d2, d3] }
  | _ => none }
def FnExactPriceBoundWrongFalsely : Prop := fnExactPriceBoundRow.holds Try.pinned (OpenSpec.ofChange fnExactPriceBoundWrong)

/- THE SECOND FORM. 'bulk': how many values and letters a reading holds, each counted each time it is reached (what is shared counts as often as it is met; a slice's spare places count too). A statement '..UptoSaid' is the law's where the arguments, and the package variables that the reading takes, are together of bulk at most 1048576: NARROWER than '..Said'. Prove '..Said' where nothing that the law and all that it calls make is longer than what came in: it says more and counts as full. Else prove '..UptoSaid'. A law counts once. -/
mutual
def uptoBulk {H : Type} : DataW H → Nat
  | .lit (.string bytes) => bytes.length + 1
  | .lit _ => 1
  | .nil => 1
  | .ptr d => uptoBulk d + 1
  | .slice elems spare => uptoBulkAll elems + uptoBulkAll spare + 1
  | .agg parts => uptoBulkAll parts + 1
  | .iface _ d => uptoBulk d + 1
  | .map entries => uptoBulkEntries entries + 1
  | .held _ => 1
def uptoBulkAll {H : Type} : List (DataW H) → Nat
  | [] => 0
  | d :: r => uptoBulk d + uptoBulkAll r
def uptoBulkEntries {H : Type} : List (Lit × DataW H) → Nat
  | [] => 0
  | x :: r => uptoBulkEntry x + uptoBulkEntries r
def uptoBulkEntry {H : Type} : Lit × DataW H → Nat
  | (.string bytes, d) => bytes.length + uptoBulk d + 1
  | (_, d) => uptoBulk d + 1
 end
def uptoSmall : (H : Type) → List (DataW H) → Bool := fun _ ds => decide (uptoBulkAll ds ≤ 1048576)
def OpenSpec.upto (s : _root_.Go.ChangeSpec) : _root_.Go.OpenSpec := { _root_.Go.OpenSpec.ofChange s with cond := some uptoSmall }

/-- 'laws.FnExactBestSet', WHERE WHAT IT READS IS OF BULK AT MOST 1048576: true; the input reads as it did. -/
def fnExactBestSetUptoRow : OpenClaim := { program := "ytcameijabkpcaaa", sum := "4a81dd8669008d854867ae20c256cd7eda843962b598b8438b082ca1c0797c93", func := "loop.example/g01110/laws.FnExactBestSet", spec := "fnExactBestSet", unfollowed := true, recurses := true, apart := false, narrowed := true }
def FnExactBestSetUptoSaid : Prop := fnExactBestSetUptoRow.holds Try.pinned (OpenSpec.upto fnExactBestSetSpec)

/-- 'laws.FnExactBestTotal', WHERE WHAT IT READS IS OF BULK AT MOST 1048576: true; the input reads as it did. -/
def fnExactBestTotalUptoRow : OpenClaim := { program := "ytcameijabkpcaaa", sum := "4a81dd8669008d854867ae20c256cd7eda843962b598b8438b082ca1c0797c93", func := "loop.example/g01110/laws.FnExactBestTotal", spec := "fnExactBestTotal", unfollowed := true, recurses := true, apart := false, narrowed := true }
def FnExactBestTotalUptoSaid : Prop := fnExactBestTotalUptoRow.holds Try.pinned (OpenSpec.upto fnExactBestTotalSpec)

/-- 'laws.FnExactMedianOf', WHERE WHAT IT READS IS OF BULK AT MOST 1048576: true; the input reads as it did. -/
def fnExactMedianOfUptoRow : OpenClaim := { program := "ytcameijabkpcaaa", sum := "4a81dd8669008d854867ae20c256cd7eda843962b598b8438b082ca1c0797c93", func := "loop.example/g01110/laws.FnExactMedianOf", spec := "fnExactMedianOf", unfollowed := true, recurses := true, apart := false, narrowed := true }
def FnExactMedianOfUptoSaid : Prop := fnExactMedianOfUptoRow.holds Try.pinned (OpenSpec.upto fnExactMedianOfSpec)

/-- 'laws.FnExactMedianValue', WHERE WHAT IT READS IS OF BULK AT MOST 1048576: true; the input reads as it did. -/
def fnExactMedianValueUptoRow : OpenClaim := { program := "ytcameijabkpcaaa", sum := "4a81dd8669008d854867ae20c256cd7eda843962b598b8438b082ca1c0797c93", func := "loop.example/g01110/laws.FnExactMedianValue", spec := "fnExactMedianValue", unfollowed := true, recurses := true, apart := false, narrowed := true }
def FnExactMedianValueUptoSaid : Prop := fnExactMedianValueUptoRow.holds Try.pinned (OpenSpec.upto fnExactMedianValueSpec)

/-- 'laws.FnExactMedianSteps', WHERE WHAT IT READS IS OF BULK AT MOST 1048576: true; the input reads as it did. -/
def fnExactMedianStepsUptoRow : OpenClaim := { program := "ytcameijabkpcaaa", sum := "4a81dd8669008d854867ae20c256cd7eda843962b598b8438b082ca1c0797c93", func := "loop.example/g01110/laws.FnExactMedianSteps", spec := "fnExactMedianSteps", unfollowed := true, recurses := true, apart := false, narrowed := true }
def FnExactMedianStepsUptoSaid : Prop := fnExactMedianStepsUptoRow.holds Try.pinned (OpenSpec.upto fnExactMedianStepsSpec)

/-- 'laws.FnExactBestPrice', WHERE WHAT IT READS IS OF BULK AT MOST 1048576: true; the input reads as it did. -/
def fnExactBestPriceUptoRow : OpenClaim := { program := "ytcameijabkpcaaa", sum := "4a81dd8669008d854867ae20c256cd7eda843962b598b8438b082ca1c0797c93", func := "loop.example/g01110/laws.FnExactBestPrice", spec := "fnExactBestPrice", unfollowed := true, recurses := true, apart := false, narrowed := true }
def FnExactBestPriceUptoSaid : Prop := fnExactBestPriceUptoRow.holds Try.pinned (OpenSpec.upto fnExactBestPriceSpec)

/-- 'laws.FnExactPriceBound', WHERE WHAT IT READS IS OF BULK AT MOST 1048576: true; the input reads as it did. -/
def fnExactPriceBoundUptoRow : OpenClaim := { program := "ytcameijabkpcaaa", sum := "4a81dd8669008d854867ae20c256cd7eda843962b598b8438b082ca1c0797c93", func := "loop.example/g01110/laws.FnExactPriceBound", spec := "fnExactPriceBound", unfollowed := true, recurses := true, apart := false, narrowed := true }
def FnExactPriceBoundUptoSaid : Prop := fnExactPriceBoundUptoRow.holds Try.pinned (OpenSpec.upto fnExactPriceBoundSpec)

end Rows
end Go.Proofs.Ytcameijabkpcaaa
