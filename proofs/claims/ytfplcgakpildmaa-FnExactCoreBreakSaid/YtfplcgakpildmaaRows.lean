/-
  No cell of these rows narrows 'for every input' (looked for: loops, veiled, ifaces, maps, wideKeys, modest, calm, conditions, laid).
  DERIVED. THE GIVEN ROWS OF THIS SEAT. 7 by the template 'for every input the law returns true; each argument reads behind the call as it read before'; 0 by the template 'total and deterministic' (their statements: YtfplcgakpildmaaTotals.lean).
  GIVEN WITH THE SEED: the statements are not yours to turn. If you find one false, say at which input.
  Laid BY PROGRAM, IN A SANDBOX (cutbox-rows.mjs): the forced cells as the released guide's own fill.sh prints them over the translation 9fed18d156edc05f… (all of the seat's roots in one cut). By AI agents, Wed Nov 11 2026. No macro, syntax, notation, axiom, sorry.
-/
import Derived.Test.YtfplcgakpildmaaChecked
import GoSem.Claim
import GoSem.ClaimJoined
import GoSem.ClaimMapViews
import Derived.JoinedTies
import Derived.KernelRfl
namespace Go.Proofs.Ytfplcgakpildmaa
/- THE CELL 'sum', in the pinned program and in every row, IS THE sha256 OF THE DUMP (.gsa) THAT YtfplcgakpildmaaProg.lean LOADS. Nothing in Lean hashes anything: it is a label: what it is worth is what the hold of that sum in a sandbox is worth. -/
noncomputable def Try.pinned : Pinned := { name := "ytfplcgakpildmaa", sum := "9fed18d156edc05f20b79e4017cdbdea311fc2a5c9c0a9c6f736b1ecf49eb3fd", checked := Try.checked }
namespace Rows
def none {H : Type} : Left H := { results := [], args := [] }

/-- 'laws.FnExactCostOfClients': WHATEVER THE INPUT: true; the input reads as it did. -/
def fnExactCostOfClientsSpec : ChangeSpec := { name := "fnExactCostOfClients", fn := fun _ => fun
  | [d1, d2] => { results := [.lit (.bool true)], args := [d1, d2] }
  | _ => none }
def fnExactCostOfClientsRow : OpenClaim := { program := "ytfplcgakpildmaa", sum := "9fed18d156edc05f20b79e4017cdbdea311fc2a5c9c0a9c6f736b1ecf49eb3fd", func := "loop.example/g01110/laws.FnExactCostOfClients", spec := "fnExactCostOfClients", unfollowed := true, recurses := true, apart := false }
def FnExactCostOfClientsSaid : Prop := fnExactCostOfClientsRow.holds Try.pinned (OpenSpec.ofChange fnExactCostOfClientsSpec)

/-- ITS FALSE NEIGHBOUR: 'it returns false'. Refute it at one input. -/
def fnExactCostOfClientsWrong : ChangeSpec := { name := "fnExactCostOfClients", fn := fun _ => fun
  | [d1, d2] => { results := [.lit (.bool false)], args := [d1, d2] }
  | _ => none }
def FnExactCostOfClientsWrongFalsely : Prop := fnExactCostOfClientsRow.holds Try.pinned (OpenSpec.ofChange fnExactCostOfClientsWrong)

/-- 'laws.FnExactCostTable': WHATEVER THE INPUT: true; the input reads as it did. -/
def fnExactCostTableSpec : ChangeSpec := { name := "fnExactCostTable", fn := fun _ => fun
  | [d] => { results := [.lit (.bool true)], args := [d] }
  | _ => none }
def fnExactCostTableRow : OpenClaim := { program := "ytfplcgakpildmaa", sum := "9fed18d156edc05f20b79e4017cdbdea311fc2a5c9c0a9c6f736b1ecf49eb3fd", func := "loop.example/g01110/laws.FnExactCostTable", spec := "fnExactCostTable", unfollowed := true, recurses := true, apart := false }
def FnExactCostTableSaid : Prop := fnExactCostTableRow.holds Try.pinned (OpenSpec.ofChange fnExactCostTableSpec)

/-- ITS FALSE NEIGHBOUR: 'it returns false'. Refute it at one input. -/
def fnExactCostTableWrong : ChangeSpec := { name := "fnExactCostTable", fn := fun _ => fun
  | [d] => { results := [.lit (.bool false)], args := [d] }
  | _ => none }
def FnExactCostTableWrongFalsely : Prop := fnExactCostTableRow.holds Try.pinned (OpenSpec.ofChange fnExactCostTableWrong)

/-- 'laws.FnExactIsCoreShare': WHATEVER THE INPUT: true; the input reads as it did. -/
def fnExactIsCoreShareSpec : ChangeSpec := { name := "fnExactIsCoreShare", fn := fun _ => fun
  | [d1, d2] => { results := [.lit (.bool true)], args := [d1, d2] }
  | _ => none }
def fnExactIsCoreShareRow : OpenClaim := { program := "ytfplcgakpildmaa", sum := "9fed18d156edc05f20b79e4017cdbdea311fc2a5c9c0a9c6f736b1ecf49eb3fd", func := "loop.example/g01110/laws.FnExactIsCoreShare", spec := "fnExactIsCoreShare", unfollowed := true, recurses := true, apart := false }
def FnExactIsCoreShareSaid : Prop := fnExactIsCoreShareRow.holds Try.pinned (OpenSpec.ofChange fnExactIsCoreShareSpec)

/-- ITS FALSE NEIGHBOUR: 'it returns false'. Refute it at one input. -/
def fnExactIsCoreShareWrong : ChangeSpec := { name := "fnExactIsCoreShare", fn := fun _ => fun
  | [d1, d2] => { results := [.lit (.bool false)], args := [d1, d2] }
  | _ => none }
def FnExactIsCoreShareWrongFalsely : Prop := fnExactIsCoreShareRow.holds Try.pinned (OpenSpec.ofChange fnExactIsCoreShareWrong)

/-- 'laws.FnExactGreatestExcess': WHATEVER THE INPUT: true; the input reads as it did. -/
def fnExactGreatestExcessSpec : ChangeSpec := { name := "fnExactGreatestExcess", fn := fun _ => fun
  | [d1, d2] => { results := [.lit (.bool true)], args := [d1, d2] }
  | _ => none }
def fnExactGreatestExcessRow : OpenClaim := { program := "ytfplcgakpildmaa", sum := "9fed18d156edc05f20b79e4017cdbdea311fc2a5c9c0a9c6f736b1ecf49eb3fd", func := "loop.example/g01110/laws.FnExactGreatestExcess", spec := "fnExactGreatestExcess", unfollowed := true, recurses := true, apart := false }
def FnExactGreatestExcessSaid : Prop := fnExactGreatestExcessRow.holds Try.pinned (OpenSpec.ofChange fnExactGreatestExcessSpec)

/-- ITS FALSE NEIGHBOUR: 'it returns false'. Refute it at one input. -/
def fnExactGreatestExcessWrong : ChangeSpec := { name := "fnExactGreatestExcess", fn := fun _ => fun
  | [d1, d2] => { results := [.lit (.bool false)], args := [d1, d2] }
  | _ => none }
def FnExactGreatestExcessWrongFalsely : Prop := fnExactGreatestExcessRow.holds Try.pinned (OpenSpec.ofChange fnExactGreatestExcessWrong)

/-- 'laws.FnExactCoreBreak': WHATEVER THE INPUT: true; the input reads as it did. -/
def fnExactCoreBreakSpec : ChangeSpec := { name := "fnExactCoreBreak", fn := fun _ => fun
  | [d1, d2] => { results := [.lit (.bool true)], args := [d1, d2] }
  | _ => none }
def fnExactCoreBreakRow : OpenClaim := { program := "ytfplcgakpildmaa", sum := "9fed18d156edc05f20b79e4017cdbdea311fc2a5c9c0a9c6f736b1ecf49eb3fd", func := "loop.example/g01110/laws.FnExactCoreBreak", spec := "fnExactCoreBreak", unfollowed := true, recurses := true, apart := false }
def FnExactCoreBreakSaid : Prop := fnExactCoreBreakRow.holds Try.pinned (OpenSpec.ofChange fnExactCoreBreakSpec)

/-- ITS FALSE NEIGHBOUR: 'it returns false'. Refute it at one input. -/
def fnExactCoreBreakWrong : ChangeSpec := { name := "fnExactCoreBreak", fn := fun _ => fun
  | [d1, d2] => { results := [.lit (.bool false)], args := [d1, d2] }
  | _ => none }
def FnExactCoreBreakWrongFalsely : Prop := fnExactCoreBreakRow.holds Try.pinned (OpenSpec.ofChange fnExactCoreBreakWrong)

/-- 'laws.FnExactMarginalShares': WHATEVER THE INPUT: true; the input reads as it did. -/
def fnExactMarginalSharesSpec : ChangeSpec := { name := "fnExactMarginalShares", fn := fun _ => fun
  | [d1, d2] => { results := [.lit (.bool true)], args := [d1, d2] }
  | _ => none }
def fnExactMarginalSharesRow : OpenClaim := { program := "ytfplcgakpildmaa", sum := "9fed18d156edc05f20b79e4017cdbdea311fc2a5c9c0a9c6f736b1ecf49eb3fd", func := "loop.example/g01110/laws.FnExactMarginalShares", spec := "fnExactMarginalShares", unfollowed := true, recurses := true, apart := false }
def FnExactMarginalSharesSaid : Prop := fnExactMarginalSharesRow.holds Try.pinned (OpenSpec.ofChange fnExactMarginalSharesSpec)

/-- ITS FALSE NEIGHBOUR: 'it returns false'. Refute it at one input. -/
def fnExactMarginalSharesWrong : ChangeSpec := { name := "fnExactMarginalShares", fn := fun _ => fun
  | [d1, d2] => { results := [.lit (.bool false)], args := [d1, d2] }
  | _ => none }
def FnExactMarginalSharesWrongFalsely : Prop := fnExactMarginalSharesRow.holds Try.pinned (OpenSpec.ofChange fnExactMarginalSharesWrong)

/-- 'laws.FnExactFairShares': WHATEVER THE INPUT: true; the input reads as it did. -/
def fnExactFairSharesSpec : ChangeSpec := { name := "fnExactFairShares", fn := fun _ => fun
  | [d] => { results := [.lit (.bool true)], args := [d] }
  | _ => none }
def fnExactFairSharesRow : OpenClaim := { program := "ytfplcgakpildmaa", sum := "9fed18d156edc05f20b79e4017cdbdea311fc2a5c9c0a9c6f736b1ecf49eb3fd", func := "loop.example/g01110/laws.FnExactFairShares", spec := "fnExactFairShares", unfollowed := true, recurses := true, apart := false }
def FnExactFairSharesSaid : Prop := fnExactFairSharesRow.holds Try.pinned (OpenSpec.ofChange fnExactFairSharesSpec)

/-- ITS FALSE NEIGHBOUR: 'it returns false'. Refute it at one input. -/
def fnExactFairSharesWrong : ChangeSpec := { name := "fnExactFairShares", fn := fun _ => fun
  | [d] => { results := [.lit (.bool false)], args := [d] }
  | _ => none }
def FnExactFairSharesWrongFalsely : Prop := fnExactFairSharesRow.holds Try.pinned (OpenSpec.ofChange fnExactFairSharesWrong)

/- THE SECOND FORM. 'bulk': how many values and letters a reading holds, each counted each time it is reached (what is shared counts as often as it is met; a slice's spare places count too). A statement '..UptoSaid' is the law's where the arguments, and the package variables that the reading takes, are together of bulk at most 1048576: NARROWER than '..Said'. Prove '..Said' where nothing that the law and all that it calls make is longer than what came in: it says more and counts as full. Else prove '..UptoSaid'. A law counts once. -/
mutual
def uptoBulk {H : Type} : DataW H → Nat
  | .lit (.string bytes) => bytes.length + 1
  | .lit _ => 1
  | .nil => 1
  | .ptr d => uptoBulk d + 1
  | .slice elems spare => uptoBulkAll elems + uptoBulkAll spare + 1
  | .agg parts => uptoBulkAll parts + 1
  | .iface _ d => uptoBulk d + 1
  | .map entries => uptoBulkEntries entries + 1
  | .held _ => 1
def uptoBulkAll {H : Type} : List (DataW H) → Nat
  | [] => 0
  | d :: r => uptoBulk d + uptoBulkAll r
def uptoBulkEntries {H : Type} : List (Lit × DataW H) → Nat
  | [] => 0
  | x :: r => uptoBulkEntry x + uptoBulkEntries r
def uptoBulkEntry {H : Type} : Lit × DataW H → Nat
  | (.string bytes, d) => bytes.length + uptoBulk d + 1
  | (_, d) => uptoBulk d + 1
 end
def uptoSmall : (H : Type) → List (DataW H) → Bool := fun _ ds => decide (uptoBulkAll ds ≤ 1048576)
def OpenSpec.upto (s : _root_.Go.ChangeSpec) : _root_.Go.OpenSpec := { _root_.Go.OpenSpec.ofChange s with cond := some uptoSmall }

/-- 'laws.FnExactCostOfClients', WHERE WHAT IT READS IS OF BULK AT MOST 1048576: true; the input reads as it did. -/
def fnExactCostOfClientsUptoRow : OpenClaim := { program := "ytfplcgakpildmaa", sum := "9fed18d156edc05f20b79e4017cdbdea311fc2a5c9c0a9c6f736b1ecf49eb3fd", func := "loop.example/g01110/laws.FnExactCostOfClients", spec := "fnExactCostOfClients", unfollowed := true, recurses := true, apart := false, narrowed := true }
def FnExactCostOfClientsUptoSaid : Prop := fnExactCostOfClientsUptoRow.holds Try.pinned (OpenSpec.upto fnExactCostOfClientsSpec)

/-- 'laws.FnExactCostTable', WHERE WHAT IT READS IS OF BULK AT MOST 1048576: true; the input reads as it did. -/
def fnExactCostTableUptoRow : OpenClaim := { program := "ytfplcgakpildmaa", sum := "9fed18d156edc05f20b79e4017cdbdea311fc2a5c9c0a9c6f736b1ecf49eb3fd", func := "loop.example/g01110/laws.FnExactCostTable", spec := "fnExactCostTable", unfollowed := true, recurses := true, apart := false, narrowed := true }
def FnExactCostTableUptoSaid : Prop := fnExactCostTableUptoRow.holds Try.pinned (OpenSpec.upto fnExactCostTableSpec)

/-- 'laws.FnExactIsCoreShare', WHERE WHAT IT READS IS OF BULK AT MOST 1048576: true; the input reads as it did. -/
def fnExactIsCoreShareUptoRow : OpenClaim := { program := "ytfplcgakpildmaa", sum := "9fed18d156edc05f20b79e4017cdbdea311fc2a5c9c0a9c6f736b1ecf49eb3fd", func := "loop.example/g01110/laws.FnExactIsCoreShare", spec := "fnExactIsCoreShare", unfollowed := true, recurses := true, apart := false, narrowed := true }
def FnExactIsCoreShareUptoSaid : Prop := fnExactIsCoreShareUptoRow.holds Try.pinned (OpenSpec.upto fnExactIsCoreShareSpec)

/-- 'laws.FnExactGreatestExcess', WHERE WHAT IT READS IS OF BULK AT MOST 1048576: true; the input reads as it did. -/
def fnExactGreatestExcessUptoRow : OpenClaim := { program := "ytfplcgakpildmaa", sum := "9fed18d156edc05f20b79e4017cdbdea311fc2a5c9c0a9c6f736b1ecf49eb3fd", func := "loop.example/g01110/laws.FnExactGreatestExcess", spec := "fnExactGreatestExcess", unfollowed := true, recurses := true, apart := false, narrowed := true }
def FnExactGreatestExcessUptoSaid : Prop := fnExactGreatestExcessUptoRow.holds Try.pinned (OpenSpec.upto fnExactGreatestExcessSpec)

/-- 'laws.FnExactCoreBreak', WHERE WHAT IT READS IS OF BULK AT MOST 1048576: true; the input reads as it did. -/
def fnExactCoreBreakUptoRow : OpenClaim := { program := "ytfplcgakpildmaa", sum := "9fed18d156edc05f20b79e4017cdbdea311fc2a5c9c0a9c6f736b1ecf49eb3fd", func := "loop.example/g01110/laws.FnExactCoreBreak", spec := "fnExactCoreBreak", unfollowed := true, recurses := true, apart := false, narrowed := true }
def FnExactCoreBreakUptoSaid : Prop := fnExactCoreBreakUptoRow.holds Try.pinned (OpenSpec.upto fnExactCoreBreakSpec)

/-- 'laws.FnExactMarginalShares', WHERE WHAT IT READS IS OF BULK AT MOST 1048576: true; the input reads as it did. -/
def fnExactMarginalSharesUptoRow : OpenClaim := { program := "ytfplcgakpildmaa", sum := "9fed18d156edc05f20b79e4017cdbdea311fc2a5c9c0a9c6f736b1ecf49eb3fd", func := "loop.example/g01110/laws.FnExactMarginalShares", spec := "fnExactMarginalShares", unfollowed := true, recurses := true, apart := false, narrowed := true }
def FnExactMarginalSharesUptoSaid : Prop := fnExactMarginalSharesUptoRow.holds Try.pinned (OpenSpec.upto fnExactMarginalSharesSpec)

/-- 'laws.FnExactFairShares', WHERE WHAT IT READS IS OF BULK AT MOST 1048576: true; the input reads as it did. -/
def fnExactFairSharesUptoRow : OpenClaim := { program := "ytfplcgakpildmaa", sum := "9fed18d156edc05f20b79e4017cdbdea311fc2a5c9c0a9c6f736b1ecf49eb3fd", func := "loop.example/g01110/laws.FnExactFairShares", spec := "fnExactFairShares", unfollowed := true, recurses := true, apart := false, narrowed := true }
def FnExactFairSharesUptoSaid : Prop := fnExactFairSharesUptoRow.holds Try.pinned (OpenSpec.upto fnExactFairSharesSpec)

end Rows
end Go.Proofs.Ytfplcgakpildmaa
