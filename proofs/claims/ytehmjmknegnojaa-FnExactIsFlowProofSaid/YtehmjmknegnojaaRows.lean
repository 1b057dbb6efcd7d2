/-
  No cell of these rows narrows 'for every input' (looked for: loops, veiled, ifaces, maps, wideKeys, modest, calm, conditions, laid).
  DERIVED. THE GIVEN ROWS OF THIS SEAT. 8 by the template 'for every input the law returns true; each argument reads behind the call as it read before'; 0 by the template 'total and deterministic' (their statements: YtehmjmknegnojaaTotals.lean).
  GIVEN WITH THE SEED: the statements are not yours to turn. If you find one false, say at which input.
  Laid BY PROGRAM, IN A SANDBOX (cutbox-rows.mjs): the forced cells as the released guide's own fill.sh prints them over the translation b359c10c0db70832… (all of the seat's roots in one cut). By AI agents, Wed Nov 11 2026. No macro, syntax, notation, axiom, sorry.
-/
import Derived.Test.YtehmjmknegnojaaChecked
import GoSem.Claim
import GoSem.ClaimJoined
import GoSem.ClaimMapViews
import Derived.JoinedTies
import Derived.KernelRfl
namespace Go.Proofs.Ytehmjmknegnojaa
/- THE CELL 'sum', in the pinned program and in every row, IS THE sha256 OF THE DUMP (.gsa) THAT YtehmjmknegnojaaProg.lean LOADS. Nothing in Lean hashes anything: it is a label: what it is worth is what the hold of that sum in a sandbox is worth. -/
noncomputable def Try.pinned : Pinned := { name := "ytehmjmknegnojaa", sum := "b359c10c0db70832f082accf9085492c5f12890fba6d148e476e62bea2169b27", checked := Try.checked }
namespace Rows
def none {H : Type} : Left H := { results := [], args := [] }

/-- 'laws.FnExactAreNeeds': WHATEVER THE INPUT: true; the input reads as it did. -/
def fnExactAreNeedsSpec : ChangeSpec := { name := "fnExactAreNeeds", fn := fun _ => fun
  | [d1, d2, d3] => { results := [.lit (.bool true)], args := [d1, d2, d3] }
  | _ => none }
def fnExactAreNeedsRow : OpenClaim := { program := "ytehmjmknegnojaa", sum := "b359c10c0db70832f082accf9085492c5f12890fba6d148e476e62bea2169b27", func := "loop.example/g01110/laws.FnExactAreNeeds", spec := "fnExactAreNeeds", unfollowed := true, recurses := true, apart := false }
def FnExactAreNeedsSaid : Prop := fnExactAreNeedsRow.holds Try.pinned (OpenSpec.ofChange fnExactAreNeedsSpec)

/-- ITS FALSE NEIGHBOUR: 'it returns false'. Refute it at one input. -/
def fnExactAreNeedsWrong : ChangeSpec := { name := "fnExactAreNeeds", fn := fun _ => fun
  | [d1, d2, d3] => { results := [.lit (.bool false)], args := [d1, d2, d3] }
  | _ => none }
def FnExactAreNeedsWrongFalsely : Prop := fnExactAreNeedsRow.holds Try.pinned (OpenSpec.ofChange fnExactAreNeedsWrong)

/-- 'laws.FnExactIsFlow': WHATEVER THE INPUT: true; the input reads as it did. -/
def fnExactIsFlowSpec : ChangeSpec := { name := "fnExactIsFlow", fn := fun _ => fun
  | [d1, d2, d3, d4, d5] => { results := [.lit (.bool true)], args := [d1, d2, d3, d4, d5] }
  | _ => none }
def fnExactIsFlowRow : OpenClaim := { program := "ytehmjmknegnojaa", sum := "b359c10c0db70832f082accf9085492c5f12890fba6d148e476e62bea2169b27", func := "loop.example/g01110/laws.FnExactIsFlow", spec := "fnExactIsFlow", unfollowed := true, recurses := true, apart := false }
def FnExactIsFlowSaid : Prop := fnExactIsFlowRow.holds Try.pinned (OpenSpec.ofChange fnExactIsFlowSpec)

/-- ITS FALSE NEIGHBOUR: 'it returns false'. Refute it at one input. -/
def fnExactIsFlowWrong : ChangeSpec := { name := "fnExactIsFlow", fn := fun _ => fun
  | [d1, d2, d3, d4, d5] => { results := [.lit (.bool false)], args := [d1, d2, d3, d4, d5] }
  | _ => none }
def FnExactIsFlowWrongFalsely : Prop := fnExactIsFlowRow.holds Try.pinned (OpenSpec.ofChange fnExactIsFlowWrong)

/-- 'laws.FnExactFlowCost': WHATEVER THE INPUT: true; the input reads as it did. -/
def fnExactFlowCostSpec : ChangeSpec := { name := "fnExactFlowCost", fn := fun _ => fun
  | [d1, d2, d3, d4, d5] => { results := [.lit (.bool true)], args := [d1, d2, d3, d4, d5] }
  | _ => none }
def fnExactFlowCostRow : OpenClaim := { program := "ytehmjmknegnojaa", sum := "b359c10c0db70832f082accf9085492c5f12890fba6d148e476e62bea2169b27", func := "loop.example/g01110/laws.FnExactFlowCost", spec := "fnExactFlowCost", unfollowed := true, recurses := true, apart := false }
def FnExactFlowCostSaid : Prop := fnExactFlowCostRow.holds Try.pinned (OpenSpec.ofChange fnExactFlowCostSpec)

/-- ITS FALSE NEIGHBOUR: 'it returns false'. Refute it at one input. -/
def fnExactFlowCostWrong : ChangeSpec := { name := "fnExactFlowCost", fn := fun _ => fun
  | [d1, d2, d3, d4, d5] => { results := [.lit (.bool false)], args := [d1, d2, d3, d4, d5] }
  | _ => none }
def FnExactFlowCostWrongFalsely : Prop := fnExactFlowCostRow.holds Try.pinned (OpenSpec.ofChange fnExactFlowCostWrong)

/-- 'laws.FnExactAreFlowPrices': WHATEVER THE INPUT: true; the input reads as it did. -/
def fnExactAreFlowPricesSpec : ChangeSpec := { name := "fnExactAreFlowPrices", fn := fun _ => fun
  | [d1, d2, d3, d4] => { results := [.lit (.bool true)], args := [d1, d2, d3, d4] }
  | _ => none }
def fnExactAreFlowPricesRow : OpenClaim := { program := "ytehmjmknegnojaa", sum := "b359c10c0db70832f082accf9085492c5f12890fba6d148e476e62bea2169b27", func := "loop.example/g01110/laws.FnExactAreFlowPrices", spec := "fnExactAreFlowPrices", unfollowed := true, recurses := true, apart := false }
def FnExactAreFlowPricesSaid : Prop := fnExactAreFlowPricesRow.holds Try.pinned (OpenSpec.ofChange fnExactAreFlowPricesSpec)

/-- ITS FALSE NEIGHBOUR: 'it returns false'. Refute it at one input. -/
def fnExactAreFlowPricesWrong : ChangeSpec := { name := "fnExactAreFlowPrices", fn := fun _ => fun
  | [d1, d2, d3, d4] => { results := [.lit (.bool false)], args := [d1, d2, d3, d4] }
  | _ => none }
def FnExactAreFlowPricesWrongFalsely : Prop := fnExactAreFlowPricesRow.holds Try.pinned (OpenSpec.ofChange fnExactAreFlowPricesWrong)

/-- 'laws.FnExactFlowYield': WHATEVER THE INPUT: true; the input reads as it did. -/
def fnExactFlowYieldSpec : ChangeSpec := { name := "fnExactFlowYield", fn := fun _ => fun
  | [d1, d2, d3, d4, d5, d6] => { results := [.lit (.bool true)], args := [d1, d2, d3, d4, d5, d6] }
  | _ => none }
def fnExactFlowYieldRow : OpenClaim := { program := "ytehmjmknegnojaa", sum := "b359c10c0db70832f082accf9085492c5f12890fba6d148e476e62bea2169b27", func := "loop.example/g01110/laws.FnExactFlowYield", spec := "fnExactFlowYield", unfollowed := true, recurses := true, apart := false }
def FnExactFlowYieldSaid : Prop := fnExactFlowYieldRow.holds Try.pinned (OpenSpec.ofChange fnExactFlowYieldSpec)

/-- ITS FALSE NEIGHBOUR: 'it returns false'. Refute it at one input. -/
def fnExactFlowYieldWrong : ChangeSpec := { name := "fnExactFlowYield", fn := fun _ => fun
  | [d1, d2, d3, d4, d5, d6] => { results := [.lit (.bool false)], args := [d1, d2, d3, d4, d5, d6] }
  | _ => none }
def FnExactFlowYieldWrongFalsely : Prop := fnExactFlowYieldRow.holds Try.pinned (OpenSpec.ofChange fnExactFlowYieldWrong)

/-- 'laws.FnExactIsFlowProof': WHATEVER THE INPUT: true; the input reads as it did. -/
def fnExactIsFlowProofSpec : ChangeSpec := { name := "fnExactIsFlowProof", fn := fun _ => fun
  | [d1, d2, d3, d4, d5, d6, d7] => { results := [.lit (.bool true)], args := [d1, d2, d3, d4, d5, d6, d7] }
  | _ => none }
def fnExactIsFlowProofRow : OpenClaim := { program := "ytehmjmknegnojaa", sum := "b359c10c0db70832f082accf9085492c5f12890fba6d148e476e62bea2169b27", func := "loop.example/g01110/laws.FnExactIsFlowProof", spec := "fnExactIsFlowProof", unfollowed := true, recurses := true, apart := false }
def FnExactIsFlowProofSaid : Prop := fnExactIsFlowProofRow.holds Try.pinned (OpenSpec.ofChange fnExactIsFlowProofSpec)

/-- ITS FALSE NEIGHBOUR: 'it returns false'. Refute it at one input. -/
def fnExactIsFlowProofWrong : ChangeSpec := { name := "fnExactIsFlowProof", fn := fun _ => fun
  | [d1, d2, d3, d4, d5, d6, d7] => { results := [.lit (.bool false)], args := [d1, d2, d3, d4, d5, d6, d7] }
  | _ => none }
def FnExactIsFlowProofWrongFalsely : Prop := fnExactIsFlowProofRow.holds Try.pinned (OpenSpec.ofChange fnExactIsFlowProofWrong)

/-- 'laws.FnExactHallClients': WHATEVER THE INPUT: true; the input reads as it did. -/
def fnExactHallClientsSpec : ChangeSpec := { name := "fnExactHallClients", fn := fun _ => fun
  | [d1, d2, d3, d4, d5] => { results := [.lit (.bool true)], args := [d1, d2, d3, d4, d5] }
  | _ => none }
def fnExactHallClientsRow : OpenClaim := { program := "ytehmjmknegnojaa", sum := "b359c10c0db70832f082accf9085492c5f12890fba6d148e476e62bea2169b27", func := "loop.example/g01110/laws.FnExactHallClients", spec := "fnExactHallClients", unfollowed := true, recurses := true, apart := false }
def FnExactHallClientsSaid : Prop := fnExactHallClientsRow.holds Try.pinned (OpenSpec.ofChange fnExactHallClientsSpec)

/-- ITS FALSE NEIGHBOUR: 'it returns false'. Refute it at one input. -/
def fnExactHallClientsWrong : ChangeSpec := { name := "fnExactHallClients", fn := fun _ => fun
  | [d1, d2, d3, d4, d5] => { results := [.lit (.bool false)], args := [d1, d2, d3, d4, d5] }
  | _ => none }
def FnExactHallClientsWrongFalsely : Prop := fnExactHallClientsRow.holds Try.pinned (OpenSpec.ofChange fnExactHallClientsWrong)

/-- 'laws.FnExactCanServe': WHATEVER THE INPUT: true; the input reads as it did. -/
def fnExactCanServeSpec : ChangeSpec := { name := "fnExactCanServe", fn := fun _ => fun
  | [d1, d2, d3, d4, d5] => { results := [.lit (.bool true)], args := [d1, d2, d3, d4, d5] }
  | _ => none }
def fnExactCanServeRow : OpenClaim := { program := "ytehmjmknegnojaa", sum := "b359c10c0db70832f082accf9085492c5f12890fba6d148e476e62bea2169b27", func := "loop.example/g01110/laws.FnExactCanServe", spec := "fnExactCanServe", unfollowed := true, recurses := true, apart := false }
def FnExactCanServeSaid : Prop := fnExactCanServeRow.holds Try.pinned (OpenSpec.ofChange fnExactCanServeSpec)

/-- ITS FALSE NEIGHBOUR: 'it returns false'. Refute it at one input. -/
def fnExactCanServeWrong : ChangeSpec := { name := "fnExactCanServe", fn := fun _ => fun
  | [d1, d2, d3, d4, d5] => { results := [.lit (.bool false)], args := [d1, d2, d3, d4, d5] }
  | _ => none }
def FnExactCanServeWrongFalsely : Prop := fnExactCanServeRow.holds Try.pinned (OpenSpec.ofChange fnExactCanServeWrong)

/- THE SECOND FORM. 'bulk': how many values and letters a reading holds, each counted each time it is reached (what is shared counts as often as it is met; a slice's spare places count too). A statement '..UptoSaid' is the law's where the arguments, and the package variables that the reading takes, are together of bulk at most 1048576: NARROWER than '..Said'. Prove '..Said' where nothing that the law and all that it calls make is longer than what came in: it says more and counts as full. Else prove '..UptoSaid'. A law counts once. -/
mutual
def uptoBulk {H : Type} : DataW H → Nat
  | .lit (.string bytes) => bytes.length + 1
  | .lit _ => 1
  | .nil => 1
  | .ptr d => uptoBulk d + 1
  | .slice elems spare => uptoBulkAll elems + uptoBulkAll spare + 1
  | .agg parts => uptoBulkAll parts + 1
  | .iface _ d => uptoBulk d + 1
  | .map entries => uptoBulkEntries entries + 1
  | .held _ => 1
def uptoBulkAll {H : Type} : List (DataW H) → Nat
  | [] => 0
  | d :: r => uptoBulk d + uptoBulkAll r
def uptoBulkEntries {H : Type} : List (Lit × DataW H) → Nat
  | [] => 0
  | x :: r => uptoBulkEntry x + uptoBulkEntries r
def uptoBulkEntry {H : Type} : Lit × DataW H → Nat
  | (.string bytes, d) => bytes.length + uptoBulk d + 1
  | (_, d) => uptoBulk d + 1
 end
def uptoSmall : (H : Type) → List (DataW H) → Bool := fun _ ds => decide (uptoBulkAll ds ≤ 1048576)
def OpenSpec.upto (s : _root_.Go.ChangeSpec) : _root_.Go.OpenSpec := { _root_.Go.OpenSpec.ofChange s with cond := some uptoSmall }

/-- 'laws.FnExactAreNeeds', WHERE WHAT IT READS IS OF BULK AT MOST 1048576: true; the input reads as it did. -/
def fnExactAreNeedsUptoRow : OpenClaim := { program := "ytehmjmknegnojaa", sum := "b359c10c0db70832f082accf9085492c5f12890fba6d148e476e62bea2169b27", func := "loop.example/g01110/laws.FnExactAreNeeds", spec := "fnExactAreNeeds", unfollowed := true, recurses := true, apart := false, narrowed := true }
def FnExactAreNeedsUptoSaid : Prop := fnExactAreNeedsUptoRow.holds Try.pinned (OpenSpec.upto fnExactAreNeedsSpec)

/-- 'laws.FnExactIsFlow', WHERE WHAT IT READS IS OF BULK AT MOST 1048576: true; the input reads as it did. -/
def fnExactIsFlowUptoRow : OpenClaim := { program := "ytehmjmknegnojaa", sum := "b359c10c0db70832f082accf9085492c5f12890fba6d148e476e62bea2169b27", func := "loop.example/g01110/laws.FnExactIsFlow", spec := "fnExactIsFlow", unfollowed := true, recurses := true, apart := false, narrowed := true }
def FnExactIsFlowUptoSaid : Prop := fnExactIsFlowUptoRow.holds Try.pinned (OpenSpec.upto fnExactIsFlowSpec)

/-- 'laws.FnExactFlowCost', WHERE WHAT IT READS IS OF BULK AT MOST 1048576: true; the input reads as it did. -/
def fnExactFlowCostUptoRow : OpenClaim := { program := "ytehmjmknegnojaa", sum := "b359c10c0db70832f082accf9085492c5f12890fba6d148e476e62bea2169b27", func := "loop.example/g01110/laws.FnExactFlowCost", spec := "fnExactFlowCost", unfollowed := true, recurses := true, apart := false, narrowed := true }
def FnExactFlowCostUptoSaid : Prop := fnExactFlowCostUptoRow.holds Try.pinned (OpenSpec.upto fnExactFlowCostSpec)

/-- 'laws.FnExactAreFlowPrices', WHERE WHAT IT READS IS OF BULK AT MOST 1048576: true; the input reads as it did. -/
def fnExactAreFlowPricesUptoRow : OpenClaim := { program := "ytehmjmknegnojaa", sum := "b359c10c0db70832f082accf9085492c5f12890fba6d148e476e62bea2169b27", func := "loop.example/g01110/laws.FnExactAreFlowPrices", spec := "fnExactAreFlowPrices", unfollowed := true, recurses := true, apart := false, narrowed := true }
def FnExactAreFlowPricesUptoSaid : Prop := fnExactAreFlowPricesUptoRow.holds Try.pinned (OpenSpec.upto fnExactAreFlowPricesSpec)

/-- 'laws.FnExactFlowYield', WHERE WHAT IT READS IS OF BULK AT MOST 1048576: true; the input reads as it did. -/
def fnExactFlowYieldUptoRow : OpenClaim := { program := "ytehmjmknegnojaa", sum := "b359c10c0db70832f082accf9085492c5f12890fba6d148e476e62bea2169b27", func := "loop.example/g01110/laws.FnExactFlowYield", spec := "fnExactFlowYield", unfollowed := true, recurses := true, apart := false, narrowed := true }
def FnExactFlowYieldUptoSaid : Prop := fnExactFlowYieldUptoRow.holds Try.pinned (OpenSpec.upto fnExactFlowYieldSpec)

/-- 'laws.FnExactIsFlowProof', WHERE WHAT IT READS IS OF BULK AT MOST 1048576: true; the input reads as it did. -/
def fnExactIsFlowProofUptoRow : OpenClaim := { program := "ytehmjmknegnojaa", sum := "b359c10c0db70832f082accf9085492c5f12890fba6d148e476e62bea2169b27", func := "loop.example/g01110/laws.FnExactIsFlowProof", spec := "fnExactIsFlowProof", unfollowed := true, recurses := true, apart := false, narrowed := true }
def FnExactIsFlowProofUptoSaid : Prop := fnExactIsFlowProofUptoRow.holds Try.pinned (OpenSpec.upto fnExactIsFlowProofSpec)

/-- 'laws.FnExactHallClients', WHERE WHAT IT READS IS OF BULK AT MOST 1048576: true; the input reads as it did. -/
def fnExactHallClientsUptoRow : OpenClaim := { program := "ytehmjmknegnojaa", sum := "b359c10c0db70832f082accf9085492c5f12890fba6d148e476e62bea2169b27", func := "loop.example/g01110/laws.FnExactHallClients", spec := "fnExactHallClients", unfollowed := true, recurses := true, apart := false, narrowed := true }
def FnExactHallClientsUptoSaid : Prop := fnExactHallClientsUptoRow.holds Try.pinned (OpenSpec.upto fnExactHallClientsSpec)

/-- 'laws.FnExactCanServe', WHERE WHAT IT READS IS OF BULK AT MOST 1048576: true; the input reads as it did. -/
def fnExactCanServeUptoRow : OpenClaim := { program := "ytehmjmknegnojaa", sum := "b359c10c0db70832f082accf9085492c5f12890fba6d148e476e62bea2169b27", func := "loop.example/g01110/laws.FnExactCanServe", spec := "fnExactCanServe", unfollowed := true, recurses := true, apart := false, narrowed := true }
def FnExactCanServeUptoSaid : Prop := fnExactCanServeUptoRow.holds Try.pinned (OpenSpec.upto fnExactCanServeSpec)

end Rows
end Go.Proofs.Ytehmjmknegnojaa
