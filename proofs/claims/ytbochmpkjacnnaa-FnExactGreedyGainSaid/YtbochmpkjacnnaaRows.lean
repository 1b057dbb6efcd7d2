/-
  No cell of these rows narrows 'for every input' (looked for: loops, veiled, ifaces, maps, wideKeys, modest, calm, conditions, laid).
  DERIVED. THE GIVEN ROWS OF THIS SEAT. 8 by the template 'for every input the law returns true; each argument reads behind the call as it read before'; 0 by the template 'total and deterministic' (their statements: YtbochmpkjacnnaaTotals.lean).
  GIVEN WITH THE SEED: the statements are not yours to turn. If you find one false, say at which input.
  Laid BY PROGRAM, IN A SANDBOX (cutbox-rows.mjs): the forced cells as the released guide's own fill.sh prints them over the translation f3de5fc2f035cd50… (all of the seat's roots in one cut). By AI agents, Wed Nov 11 2026. No macro, syntax, notation, axiom, sorry.
-/
import Derived.Test.YtbochmpkjacnnaaChecked
import GoSem.Claim
import GoSem.ClaimJoined
import GoSem.ClaimMapViews
import Derived.JoinedTies
import Derived.KernelRfl
namespace Go.Proofs.Ytbochmpkjacnnaa
/- THE CELL 'sum', in the pinned program and in every row, IS THE sha256 OF THE DUMP (.gsa) THAT YtbochmpkjacnnaaProg.lean LOADS. Nothing in Lean hashes anything: it is a label: what it is worth is what the hold of that sum in a sandbox is worth. -/
noncomputable def Try.pinned : Pinned := { name := "ytbochmpkjacnnaa", sum := "f3de5fc2f035cd508efa79649dc19c3bb1eab81e905d5bda8d9e75c3cb60009f", checked := Try.checked }
namespace Rows
def none {H : Type} : Left H := { results := [], args := [] }

/-- 'laws.FnExactBestGain': WHATEVER THE INPUT: true; the input reads as it did. -/
def fnExactBestGainSpec : ChangeSpec := { name := "fnExactBestGain", fn := fun _ => fun
  | [d1, d2, d3] => { results := [.lit (.bool true)], args := [d1, d2, d3] }
  | _ => none }
def fnExactBestGainRow : OpenClaim := { program := "ytbochmpkjacnnaa", sum := "f3de5fc2f035cd508efa79649dc19c3bb1eab81e905d5bda8d9e75c3cb60009f", func := "loop.example/g01110/laws.FnExactBestGain", spec := "fnExactBestGain", unfollowed := true, recurses := true, apart := false }
def FnExactBestGainSaid : Prop := fnExactBestGainRow.holds Try.pinned (OpenSpec.ofChange fnExactBestGainSpec)

/-- ITS FALSE NEIGHBOUR: 'it returns false'. Refute it at one input. -/
def fnExactBestGainWrong : ChangeSpec := { name := "fnExactBestGain", fn := fun _ => fun
  | [d1, d2, d3] => { results := [.lit (.bool false)], args := [d1, d2, d3] }
  | _ => none }
def FnExactBestGainWrongFalsely : Prop := fnExactBestGainRow.holds Try.pinned (OpenSpec.ofChange fnExactBestGainWrong)

/-- 'laws.FnExactBestAllowed': WHATEVER THE INPUT: true; the input reads as it did. -/
def fnExactBestAllowedSpec : ChangeSpec := { name := "fnExactBestAllowed", fn := fun _ => fun
  | [d1, d2, d3, d4] => { results := [.lit (.bool true)], args := [d1, d2, d3, d4] }
  | _ => none }
def fnExactBestAllowedRow : OpenClaim := { program := "ytbochmpkjacnnaa", sum := "f3de5fc2f035cd508efa79649dc19c3bb1eab81e905d5bda8d9e75c3cb60009f", func := "loop.example/g01110/laws.FnExactBestAllowed", spec := "fnExactBestAllowed", unfollowed := true, recurses := true, apart := false }
def FnExactBestAllowedSaid : Prop := fnExactBestAllowedRow.holds Try.pinned (OpenSpec.ofChange fnExactBestAllowedSpec)

/-- ITS FALSE NEIGHBOUR: 'it returns false'. Refute it at one input. -/
def fnExactBestAllowedWrong : ChangeSpec := { name := "fnExactBestAllowed", fn := fun _ => fun
  | [d1, d2, d3, d4] => { results := [.lit (.bool false)], args := [d1, d2, d3, d4] }
  | _ => none }
def FnExactBestAllowedWrongFalsely : Prop := fnExactBestAllowedRow.holds Try.pinned (OpenSpec.ofChange fnExactBestAllowedWrong)

/-- 'laws.FnExactBestBudget': WHATEVER THE INPUT: true; the input reads as it did. -/
def fnExactBestBudgetSpec : ChangeSpec := { name := "fnExactBestBudget", fn := fun _ => fun
  | [d1, d2, d3] => { results := [.lit (.bool true)], args := [d1, d2, d3] }
  | _ => none }
def fnExactBestBudgetRow : OpenClaim := { program := "ytbochmpkjacnnaa", sum := "f3de5fc2f035cd508efa79649dc19c3bb1eab81e905d5bda8d9e75c3cb60009f", func := "loop.example/g01110/laws.FnExactBestBudget", spec := "fnExactBestBudget", unfollowed := true, recurses := true, apart := false }
def FnExactBestBudgetSaid : Prop := fnExactBestBudgetRow.holds Try.pinned (OpenSpec.ofChange fnExactBestBudgetSpec)

/-- ITS FALSE NEIGHBOUR: 'it returns false'. Refute it at one input. -/
def fnExactBestBudgetWrong : ChangeSpec := { name := "fnExactBestBudget", fn := fun _ => fun
  | [d1, d2, d3] => { results := [.lit (.bool false)], args := [d1, d2, d3] }
  | _ => none }
def FnExactBestBudgetWrongFalsely : Prop := fnExactBestBudgetRow.holds Try.pinned (OpenSpec.ofChange fnExactBestBudgetWrong)

/-- 'laws.FnExactGreedyGain': WHATEVER THE INPUT: true; the input reads as it did. -/
def fnExactGreedyGainSpec : ChangeSpec := { name := "fnExactGreedyGain", fn := fun _ => fun
  | [d1, d2, d3] => { results := [.lit (.bool true)], args := [d1, d2, d3] }
  | _ => none }
def fnExactGreedyGainRow : OpenClaim := { program := "ytbochmpkjacnnaa", sum := "f3de5fc2f035cd508efa79649dc19c3bb1eab81e905d5bda8d9e75c3cb60009f", func := "loop.example/g01110/laws.FnExactGreedyGain", spec := "fnExactGreedyGain", unfollowed := true, recurses := true, apart := false }
def FnExactGreedyGainSaid : Prop := fnExactGreedyGainRow.holds Try.pinned (OpenSpec.ofChange fnExactGreedyGainSpec)

/-- ITS FALSE NEIGHBOUR: 'it returns false'. Refute it at one input. -/
def fnExactGreedyGainWrong : ChangeSpec := { name := "fnExactGreedyGain", fn := fun _ => fun
  | [d1, d2, d3] => { results := [.lit (.bool false)], args := [d1, d2, d3] }
  | _ => none }
def FnExactGreedyGainWrongFalsely : Prop := fnExactGreedyGainRow.holds Try.pinned (OpenSpec.ofChange fnExactGreedyGainWrong)

/-- 'laws.FnExactGreedyAllowed': WHATEVER THE INPUT: true; the input reads as it did. -/
def fnExactGreedyAllowedSpec : ChangeSpec := { name := "fnExactGreedyAllowed", fn := fun _ => fun
  | [d1, d2, d3, d4] => { results := [.lit (.bool true)], args := [d1, d2, d3, d4] }
  | _ => none }
def fnExactGreedyAllowedRow : OpenClaim := { program := "ytbochmpkjacnnaa", sum := "f3de5fc2f035cd508efa79649dc19c3bb1eab81e905d5bda8d9e75c3cb60009f", func := "loop.example/g01110/laws.FnExactGreedyAllowed", spec := "fnExactGreedyAllowed", unfollowed := true, recurses := true, apart := false }
def FnExactGreedyAllowedSaid : Prop := fnExactGreedyAllowedRow.holds Try.pinned (OpenSpec.ofChange fnExactGreedyAllowedSpec)

/-- ITS FALSE NEIGHBOUR: 'it returns false'. Refute it at one input. -/
def fnExactGreedyAllowedWrong : ChangeSpec := { name := "fnExactGreedyAllowed", fn := fun _ => fun
  | [d1, d2, d3, d4] => { results := [.lit (.bool false)], args := [d1, d2, d3, d4] }
  | _ => none }
def FnExactGreedyAllowedWrongFalsely : Prop := fnExactGreedyAllowedRow.holds Try.pinned (OpenSpec.ofChange fnExactGreedyAllowedWrong)

/-- 'laws.FnExactLazyGain': WHATEVER THE INPUT: true; the input reads as it did. -/
def fnExactLazyGainSpec : ChangeSpec := { name := "fnExactLazyGain", fn := fun _ => fun
  | [d1, d2, d3] => { results := [.lit (.bool true)], args := [d1, d2, d3] }
  | _ => none }
def fnExactLazyGainRow : OpenClaim := { program := "ytbochmpkjacnnaa", sum := "f3de5fc2f035cd508efa79649dc19c3bb1eab81e905d5bda8d9e75c3cb60009f", func := "loop.example/g01110/laws.FnExactLazyGain", spec := "fnExactLazyGain", unfollowed := true, recurses := true, apart := false }
def FnExactLazyGainSaid : Prop := fnExactLazyGainRow.holds Try.pinned (OpenSpec.ofChange fnExactLazyGainSpec)

/-- ITS FALSE NEIGHBOUR: 'it returns false'. Refute it at one input. -/
def fnExactLazyGainWrong : ChangeSpec := { name := "fnExactLazyGain", fn := fun _ => fun
  | [d1, d2, d3] => { results := [.lit (.bool false)], args := [d1, d2, d3] }
  | _ => none }
def FnExactLazyGainWrongFalsely : Prop := fnExactLazyGainRow.holds Try.pinned (OpenSpec.ofChange fnExactLazyGainWrong)

/-- 'laws.FnExactLeastUpper': WHATEVER THE INPUT: true; the input reads as it did. -/
def fnExactLeastUpperSpec : ChangeSpec := { name := "fnExactLeastUpper", fn := fun _ => fun
  | [d1, d2, d3] => { results := [.lit (.bool true)], args := [d1, d2, d3] }
  | _ => none }
def fnExactLeastUpperRow : OpenClaim := { program := "ytbochmpkjacnnaa", sum := "f3de5fc2f035cd508efa79649dc19c3bb1eab81e905d5bda8d9e75c3cb60009f", func := "loop.example/g01110/laws.FnExactLeastUpper", spec := "fnExactLeastUpper", unfollowed := true, recurses := true, apart := false }
def FnExactLeastUpperSaid : Prop := fnExactLeastUpperRow.holds Try.pinned (OpenSpec.ofChange fnExactLeastUpperSpec)

/-- ITS FALSE NEIGHBOUR: 'it returns false'. Refute it at one input. -/
def fnExactLeastUpperWrong : ChangeSpec := { name := "fnExactLeastUpper", fn := fun _ => fun
  | [d1, d2, d3] => { results := [.lit (.bool false)], args := [d1, d2, d3] }
  | _ => none }
def FnExactLeastUpperWrongFalsely : Prop := fnExactLeastUpperRow.holds Try.pinned (OpenSpec.ofChange fnExactLeastUpperWrong)

/-- 'laws.FnExactRatioGain': WHATEVER THE INPUT: true; the input reads as it did. -/
def fnExactRatioGainSpec : ChangeSpec := { name := "fnExactRatioGain", fn := fun _ => fun
  | [d1, d2, d3] => { results := [.lit (.bool true)], args := [d1, d2, d3] }
  | _ => none }
def fnExactRatioGainRow : OpenClaim := { program := "ytbochmpkjacnnaa", sum := "f3de5fc2f035cd508efa79649dc19c3bb1eab81e905d5bda8d9e75c3cb60009f", func := "loop.example/g01110/laws.FnExactRatioGain", spec := "fnExactRatioGain", unfollowed := true, recurses := true, apart := false }
def FnExactRatioGainSaid : Prop := fnExactRatioGainRow.holds Try.pinned (OpenSpec.ofChange fnExactRatioGainSpec)

/-- ITS FALSE NEIGHBOUR: 'it returns false'. Refute it at one input. -/
def fnExactRatioGainWrong : ChangeSpec := { name := "fnExactRatioGain", fn := fun _ => fun
  | [d1, d2, d3] => { results := [.lit (.bool false)], args := [d1, d2, d3] }
  | _ => none }
def FnExactRatioGainWrongFalsely : Prop := fnExactRatioGainRow.holds Try.pinned (OpenSpec.ofChange fnExactRatioGainWrong)

/- THE SECOND FORM. 'bulk': how many values and letters a reading holds, each counted each time it is reached (what is shared counts as often as it is met; a slice's spare places count too). A statement '..UptoSaid' is the law's where the arguments, and the package variables that the reading takes, are together of bulk at most 1048576: NARROWER than '..Said'. Prove '..Said' where nothing that the law and all that it calls make is longer than what came in: it says more and counts as full. Else prove '..UptoSaid'. A law counts once. -/
mutual
def uptoBulk {H : Type} : DataW H → Nat
  | .lit (.string bytes) => bytes.length + 1
  | .lit _ => 1
  | .nil => 1
  | .ptr d => uptoBulk d + 1
  | .slice elems spare => uptoBulkAll elems + uptoBulkAll spare + 1
  | .agg parts => uptoBulkAll parts + 1
  | .iface _ d => uptoBulk d + 1
  | .map entries => uptoBulkEntries entries + 1
  | .held _ => 1
def uptoBulkAll {H : Type} : List (DataW H) → Nat
  | [] => 0
  | d :: r => uptoBulk d + uptoBulkAll r
def uptoBulkEntries {H : Type} : List (Lit × DataW H) → Nat
  | [] => 0
  | x :: r => uptoBulkEntry x + uptoBulkEntries r
def uptoBulkEntry {H : Type} : Lit × DataW H → Nat
  | (.string bytes, d) => bytes.length + uptoBulk d + 1
  | (_, d) => uptoBulk d + 1
 end
def uptoSmall : (H : Type) → List (DataW H) → Bool := fun _ ds => decide (uptoBulkAll ds ≤ 1048576)
def OpenSpec.upto (s : _root_.Go.ChangeSpec) : _root_.Go.OpenSpec := { _root_.Go.OpenSpec.ofChange s with cond := some uptoSmall }

/-- 'laws.FnExactBestGain', WHERE WHAT IT READS IS OF BULK AT MOST 1048576: true; the input reads as it did. -/
def fnExactBestGainUptoRow : OpenClaim := { program := "ytbochmpkjacnnaa", sum := "f3de5fc2f035cd508efa79649dc19c3bb1eab81e905d5bda8d9e75c3cb60009f", func := "loop.example/g01110/laws.FnExactBestGain", spec := "fnExactBestGain", unfollowed := true, recurses := true, apart := false, narrowed := true }
def FnExactBestGainUptoSaid : Prop := fnExactBestGainUptoRow.holds Try.pinned (OpenSpec.upto fnExactBestGainSpec)

/-- 'laws.FnExactBestAllowed', WHERE WHAT IT READS IS OF BULK AT MOST 1048576: true; the input reads as it did. -/
def fnExactBestAllowedUptoRow : OpenClaim := { program := "ytbochmpkjacnnaa", sum := "f3de5fc2f035cd508efa79649dc19c3bb1eab81e905d5bda8d9e75c3cb60009f", func := "loop.example/g01110/laws.FnExactBestAllowed", spec := "fnExactBestAllowed", unfollowed := true, recurses := true, apart := false, narrowed := true }
def FnExactBestAllowedUptoSaid : Prop := fnExactBestAllowedUptoRow.holds Try.pinned (OpenSpec.upto fnExactBestAllowedSpec)

/-- 'laws.FnExactBestBudget', WHERE WHAT IT READS IS OF BULK AT MOST 1048576: true; the input reads as it did. -/
def fnExactBestBudgetUptoRow : OpenClaim := { program := "ytbochmpkjacnnaa", sum := "f3de5fc2f035cd508efa79649dc19c3bb1eab81e905d5bda8d9e75c3cb60009f", func := "loop.example/g01110/laws.FnExactBestBudget", spec := "fnExactBestBudget", unfollowed := true, recurses := true, apart := false, narrowed := true }
def FnExactBestBudgetUptoSaid : Prop := fnExactBestBudgetUptoRow.holds Try.pinned (OpenSpec.upto fnExactBestBudgetSpec)

/-- 'laws.FnExactGreedyGain', WHERE WHAT IT READS IS OF BULK AT MOST 1048576: true; the input reads as it did. -/
def fnExactGreedyGainUptoRow : OpenClaim := { program := "ytbochmpkjacnnaa", sum := "f3de5fc2f035cd508efa79649dc19c3bb1eab81e905d5bda8d9e75c3cb60009f", func := "loop.example/g01110/laws.FnExactGreedyGain", spec := "fnExactGreedyGain", unfollowed := true, recurses := true, apart := false, narrowed := true }
def FnExactGreedyGainUptoSaid : Prop := fnExactGreedyGainUptoRow.holds Try.pinned (OpenSpec.upto fnExactGreedyGainSpec)

/-- 'laws.FnExactGreedyAllowed', WHERE WHAT IT READS IS OF BULK AT MOST 1048576: true; the input reads as it did. -/
def fnExactGreedyAllowedUptoRow : OpenClaim := { program := "ytbochmpkjacnnaa", sum := "f3de5fc2f035cd508efa79649dc19c3bb1eab81e905d5bda8d9e75c3cb60009f", func := "loop.example/g01110/laws.FnExactGreedyAllowed", spec := "fnExactGreedyAllowed", unfollowed := true, recurses := true, apart := false, narrowed := true }
def FnExactGreedyAllowedUptoSaid : Prop := fnExactGreedyAllowedUptoRow.holds Try.pinned (OpenSpec.upto fnExactGreedyAllowedSpec)

/-- 'laws.FnExactLazyGain', WHERE WHAT IT READS IS OF BULK AT MOST 1048576: true; the input reads as it did. -/
def fnExactLazyGainUptoRow : OpenClaim := { program := "ytbochmpkjacnnaa", sum := "f3de5fc2f035cd508efa79649dc19c3bb1eab81e905d5bda8d9e75c3cb60009f", func := "loop.example/g01110/laws.FnExactLazyGain", spec := "fnExactLazyGain", unfollowed := true, recurses := true, apart := false, narrowed := true }
def FnExactLazyGainUptoSaid : Prop := fnExactLazyGainUptoRow.holds Try.pinned (OpenSpec.upto fnExactLazyGainSpec)

/-- 'laws.FnExactLeastUpper', WHERE WHAT IT READS IS OF BULK AT MOST 1048576: true; the input reads as it did. -/
def fnExactLeastUpperUptoRow : OpenClaim := { program := "ytbochmpkjacnnaa", sum := "f3de5fc2f035cd508efa79649dc19c3bb1eab81e905d5bda8d9e75c3cb60009f", func := "loop.example/g01110/laws.FnExactLeastUpper", spec := "fnExactLeastUpper", unfollowed := true, recurses := true, apart := false, narrowed := true }
def FnExactLeastUpperUptoSaid : Prop := fnExactLeastUpperUptoRow.holds Try.pinned (OpenSpec.upto fnExactLeastUpperSpec)

/-- 'laws.FnExactRatioGain', WHERE WHAT IT READS IS OF BULK AT MOST 1048576: true; the input reads as it did. -/
def fnExactRatioGainUptoRow : OpenClaim := { program := "ytbochmpkjacnnaa", sum := "f3de5fc2f035cd508efa79649dc19c3bb1eab81e905d5bda8d9e75c3cb60009f", func := "loop.example/g01110/laws.FnExactRatioGain", spec := "fnExactRatioGain", unfollowed := true, recurses := true, apart := false, narrowed := true }
def FnExactRatioGainUptoSaid : Prop := fnExactRatioGainUptoRow.holds Try.pinned (OpenSpec.upto fnExactRatioGainSpec)

end Rows
end Go.Proofs.Ytbochmpkjacnnaa
