/-
  No cell of these rows narrows 'for every input' (looked for: loops, veiled, ifaces, maps, wideKeys, modest, calm, conditions, laid).
  DERIVED. THE GIVEN ROWS OF THIS SEAT. 10 by the template 'for every input the law returns true; each argument reads behind the call as it read before'; 0 by the template 'total and deterministic' (their statements: YtffjlecibpmgiaaTotals.lean).
  GIVEN WITH THE SEED: the statements are not yours to turn. If you find one false, say at which input.
  Laid BY PROGRAM, IN A SANDBOX (cutbox-rows.mjs): the forced cells as the released guide's own fill.sh prints them over the translation 4edbd982eee75b07… (all of the seat's roots in one cut). By AI agents, Wed Nov 11 2026. No macro, syntax, notation, axiom, sorry.
-/
import Derived.Test.YtffjlecibpmgiaaChecked
import GoSem.Claim
import GoSem.ClaimJoined
import GoSem.ClaimMapViews
import Derived.JoinedTies
import Derived.KernelRfl
namespace Go.Proofs.Ytffjlecibpmgiaa
/- THE CELL 'sum', in the pinned program and in every row, IS THE sha256 OF THE DUMP (.gsa) THAT YtffjlecibpmgiaaProg.lean LOADS. Nothing in Lean hashes anything: it is a label: what it is worth is what the hold of that sum in a sandbox is worth. -/
noncomputable def Try.pinned : Pinned := { name := "ytffjlecibpmgiaa", sum := "4edbd982eee75b079b06c23ea3c925bd362d13d98e4f660daabf222047935ad1", checked := Try.checked }
namespace Rows
def none {H : Type} : Left H := { results := [], args := [] }

/-- 'laws.FnExactIsSystem': WHATEVER THE INPUT: true; the input reads as it did. -/
def fnExactIsSystemSpec : ChangeSpec := { name := "fnExactIsSystem", fn := fun _ => fun
  | [d] => { results := [.lit (.bool true)], args := [d] }
  | _ => none }
def fnExactIsSystemRow : OpenClaim := { program := "ytffjlecibpmgiaa", sum := "4edbd982eee75b079b06c23ea3c925bd362d13d98e4f660daabf222047935ad1", func := "loop.example/g01110/laws.FnExactIsSystem", spec := "fnExactIsSystem", apart := false }
def FnExactIsSystemSaid : Prop := fnExactIsSystemRow.holds Try.pinned (OpenSpec.ofChange fnExactIsSystemSpec)

/-- ITS FALSE NEIGHBOUR: 'it returns false'. Refute it at one input. -/
def fnExactIsSystemWrong : ChangeSpec := { name := "fnExactIsSystem", fn := fun _ => fun
  | [d] => { results := [.lit (.bool false)], args := [d] }
  | _ => none }
def FnExactIsSystemWrongFalsely : Prop := fnExactIsSystemRow.holds Try.pinned (OpenSpec.ofChange fnExactIsSystemWrong)

/-- 'laws.FnExactCoveredBy': WHATEVER THE INPUT: true; the input reads as it did. -/
def fnExactCoveredBySpec : ChangeSpec := { name := "fnExactCoveredBy", fn := fun _ => fun
  | [d1, d2] => { results := [.lit (.bool true)], args := [d1, d2] }
  | _ => none }
def fnExactCoveredByRow : OpenClaim := { program := "ytffjlecibpmgiaa", sum := "4edbd982eee75b079b06c23ea3c925bd362d13d98e4f660daabf222047935ad1", func := "loop.example/g01110/laws.FnExactCoveredBy", spec := "fnExactCoveredBy", recurses := true, apart := false }
def FnExactCoveredBySaid : Prop := fnExactCoveredByRow.holds Try.pinned (OpenSpec.ofChange fnExactCoveredBySpec)

/-- ITS FALSE NEIGHBOUR: 'it returns false'. Refute it at one input. -/
def fnExactCoveredByWrong : ChangeSpec := { name := "fnExactCoveredBy", fn := fun _ => fun
  | [d1, d2] => { results := [.lit (.bool false)], args := [d1, d2] }
  | _ => none }
def FnExactCoveredByWrongFalsely : Prop := fnExactCoveredByRow.holds Try.pinned (OpenSpec.ofChange fnExactCoveredByWrong)

/-- 'laws.FnExactIsCover': WHATEVER THE INPUT: true; the input reads as it did. -/
def fnExactIsCoverSpec : ChangeSpec := { name := "fnExactIsCover", fn := fun _ => fun
  | [d1, d2] => { results := [.lit (.bool true)], args := [d1, d2] }
  | _ => none }
def fnExactIsCoverRow : OpenClaim := { program := "ytffjlecibpmgiaa", sum := "4edbd982eee75b079b06c23ea3c925bd362d13d98e4f660daabf222047935ad1", func := "loop.example/g01110/laws.FnExactIsCover", spec := "fnExactIsCover", recurses := true, apart := false }
def FnExactIsCoverSaid : Prop := fnExactIsCoverRow.holds Try.pinned (OpenSpec.ofChange fnExactIsCoverSpec)

/-- ITS FALSE NEIGHBOUR: 'it returns false'. Refute it at one input. -/
def fnExactIsCoverWrong : ChangeSpec := { name := "fnExactIsCover", fn := fun _ => fun
  | [d1, d2] => { results := [.lit (.bool false)], args := [d1, d2] }
  | _ => none }
def FnExactIsCoverWrongFalsely : Prop := fnExactIsCoverRow.holds Try.pinned (OpenSpec.ofChange fnExactIsCoverWrong)

/-- 'laws.FnExactCostOf': WHATEVER THE INPUT: true; the input reads as it did. -/
def fnExactCostOfSpec : ChangeSpec := { name := "fnExactCostOf", fn := fun _ => fun
  | [d1, d2] => { results := [.lit (.bool true)], args := [d1, d2] }
  | _ => none }
def fnExactCostOfRow : OpenClaim := { program := "ytffjlecibpmgiaa", sum := "4edbd982eee75b079b06c23ea3c925bd362d13d98e4f660daabf222047935ad1", func := "loop.example/g01110/laws.FnExactCostOf", spec := "fnExactCostOf", apart := false }
def FnExactCostOfSaid : Prop := fnExactCostOfRow.holds Try.pinned (OpenSpec.ofChange fnExactCostOfSpec)

/-- ITS FALSE NEIGHBOUR: 'it returns false'. Refute it at one input. -/
def fnExactCostOfWrong : ChangeSpec := { name := "fnExactCostOf", fn := fun _ => fun
  | [d1, d2] => { results := [.lit (.bool false)], args := [d1, d2] }
  | _ => none }
def FnExactCostOfWrongFalsely : Prop := fnExactCostOfRow.holds Try.pinned (OpenSpec.ofChange fnExactCostOfWrong)

/-- 'laws.FnExactHarmonicOf': WHATEVER THE INPUT: true; the input reads as it did. -/
def fnExactHarmonicOfSpec : ChangeSpec := { name := "fnExactHarmonicOf", fn := fun _ => fun
  | [d] => { results := [.lit (.bool true)], args := [d] }
  | _ => none }
def fnExactHarmonicOfRow : OpenClaim := { program := "ytffjlecibpmgiaa", sum := "4edbd982eee75b079b06c23ea3c925bd362d13d98e4f660daabf222047935ad1", func := "loop.example/g01110/laws.FnExactHarmonicOf", spec := "fnExactHarmonicOf", apart := false }
def FnExactHarmonicOfSaid : Prop := fnExactHarmonicOfRow.holds Try.pinned (OpenSpec.ofChange fnExactHarmonicOfSpec)

/-- ITS FALSE NEIGHBOUR: 'it returns false'. Refute it at one input. -/
def fnExactHarmonicOfWrong : ChangeSpec := { name := "fnExactHarmonicOf", fn := fun _ => fun
  | [d] => { results := [.lit (.bool false)], args := [d] }
  | _ => none }
def FnExactHarmonicOfWrongFalsely : Prop := fnExactHarmonicOfRow.holds Try.pinned (OpenSpec.ofChange fnExactHarmonicOfWrong)

/-- 'laws.FnExactArePrices': WHATEVER THE INPUT: true; the input reads as it did. -/
def fnExactArePricesSpec : ChangeSpec := { name := "fnExactArePrices", fn := fun _ => fun
  | [d1, d2, d3] => { results := [.lit (.bool true)], args := [d1, d2, d3] }
  | _ => none }
def fnExactArePricesRow : OpenClaim := { program := "ytffjlecibpmgiaa", sum := "4edbd982eee75b079b06c23ea3c925bd362d13d98e4f660daabf222047935ad1", func := "loop.example/g01110/laws.FnExactArePrices", spec := "fnExactArePrices", unfollowed := true, recurses := true, apart := false }
def FnExactArePricesSaid : Prop := fnExactArePricesRow.holds Try.pinned (OpenSpec.ofChange fnExactArePricesSpec)

/-- ITS FALSE NEIGHBOUR: 'it returns false'. Refute it at one input. -/
def fnExactArePricesWrong : ChangeSpec := { name := "fnExactArePrices", fn := fun _ => fun
  | [d1, d2, d3] => { results := [.lit (.bool false)], args := [d1, d2, d3] }
  | _ => none }
def FnExactArePricesWrongFalsely : Prop := fnExactArePricesRow.holds Try.pinned (OpenSpec.ofChange fnExactArePricesWrong)

/-- 'laws.FnExactRaisePrices': WHATEVER THE INPUT: true; the input reads as it did. -/
def fnExactRaisePricesSpec : ChangeSpec := { name := "fnExactRaisePrices", fn := fun _ => fun
  | [d] => { results := [.lit (.bool true)], args := [d] }
  | _ => none }
def fnExactRaisePricesRow : OpenClaim := { program := "ytffjlecibpmgiaa", sum := "4edbd982eee75b079b06c23ea3c925bd362d13d98e4f660daabf222047935ad1", func := "loop.example/g01110/laws.FnExactRaisePrices", spec := "fnExactRaisePrices", unfollowed := true, recurses := true, apart := false }
def FnExactRaisePricesSaid : Prop := fnExactRaisePricesRow.holds Try.pinned (OpenSpec.ofChange fnExactRaisePricesSpec)

/-- ITS FALSE NEIGHBOUR: 'it returns false'. Refute it at one input. -/
def fnExactRaisePricesWrong : ChangeSpec := { name := "fnExactRaisePrices", fn := fun _ => fun
  | [d] => { results := [.lit (.bool false)], args := [d] }
  | _ => none }
def FnExactRaisePricesWrongFalsely : Prop := fnExactRaisePricesRow.holds Try.pinned (OpenSpec.ofChange fnExactRaisePricesWrong)

/-- 'laws.FnExactTurnSystem': WHATEVER THE INPUT: true; the input reads as it did. -/
def fnExactTurnSystemSpec : ChangeSpec := { name := "fnExactTurnSystem", fn := fun _ => fun
  | [d] => { results := [.lit (.bool true)], args := [d] }
  | _ => none }
def fnExactTurnSystemRow : OpenClaim := { program := "ytffjlecibpmgiaa", sum := "4edbd982eee75b079b06c23ea3c925bd362d13d98e4f660daabf222047935ad1", func := "loop.example/g01110/laws.FnExactTurnSystem", spec := "fnExactTurnSystem", unfollowed := true, recurses := true, apart := false }
def FnExactTurnSystemSaid : Prop := fnExactTurnSystemRow.holds Try.pinned (OpenSpec.ofChange fnExactTurnSystemSpec)

/-- ITS FALSE NEIGHBOUR: 'it returns false'. Refute it at one input. -/
def fnExactTurnSystemWrong : ChangeSpec := { name := "fnExactTurnSystem", fn := fun _ => fun
  | [d] => { results := [.lit (.bool false)], args := [d] }
  | _ => none }
def FnExactTurnSystemWrongFalsely : Prop := fnExactTurnSystemRow.holds Try.pinned (OpenSpec.ofChange fnExactTurnSystemWrong)

/-- 'laws.FnExactStabPoints': WHATEVER THE INPUT: true; the input reads as it did. -/
def fnExactStabPointsSpec : ChangeSpec := { name := "fnExactStabPoints", fn := fun _ => fun
  | [d] => { results := [.lit (.bool true)], args := [d] }
  | _ => none }
def fnExactStabPointsRow : OpenClaim := { program := "ytffjlecibpmgiaa", sum := "4edbd982eee75b079b06c23ea3c925bd362d13d98e4f660daabf222047935ad1", func := "loop.example/g01110/laws.FnExactStabPoints", spec := "fnExactStabPoints", unfollowed := true, recurses := true, apart := false }
def FnExactStabPointsSaid : Prop := fnExactStabPointsRow.holds Try.pinned (OpenSpec.ofChange fnExactStabPointsSpec)

/-- ITS FALSE NEIGHBOUR: 'it returns false'. Refute it at one input. -/
def fnExactStabPointsWrong : ChangeSpec := { name := "fnExactStabPoints", fn := fun _ => fun
  | [d] => { results := [.lit (.bool false)], args := [d] }
  | _ => none }
def FnExactStabPointsWrongFalsely : Prop := fnExactStabPointsRow.holds Try.pinned (OpenSpec.ofChange fnExactStabPointsWrong)

/-- 'laws.FnExactApartIntervals': WHATEVER THE INPUT: true; the input reads as it did. -/
def fnExactApartIntervalsSpec : ChangeSpec := { name := "fnExactApartIntervals", fn := fun _ => fun
  | [d] => { results := [.lit (.bool true)], args := [d] }
  | _ => none }
def fnExactApartIntervalsRow : OpenClaim := { program := "ytffjlecibpmgiaa", sum := "4edbd982eee75b079b06c23ea3c925bd362d13d98e4f660daabf222047935ad1", func := "loop.example/g01110/laws.FnExactApartIntervals", spec := "fnExactApartIntervals", unfollowed := true, recurses := true, apart := false }
def FnExactApartIntervalsSaid : Prop := fnExactApartIntervalsRow.holds Try.pinned (OpenSpec.ofChange fnExactApartIntervalsSpec)

/-- ITS FALSE NEIGHBOUR: 'it returns false'. Refute it at one input. -/
def fnExactApartIntervalsWrong : ChangeSpec := { name := "fnExactApartIntervals", fn := fun _ => fun
  | [d] => { results := [.lit (.bool false)], args := [d] }
  | _ => none }
def FnExactApartIntervalsWrongFalsely : Prop := fnExactApartIntervalsRow.holds Try.pinned (OpenSpec.ofChange fnExactApartIntervalsWrong)

/- THE SECOND FORM. 'bulk': how many values and letters a reading holds, each counted each time it is reached (what is shared counts as often as it is met; a slice's spare places count too). A statement '..UptoSaid' is the law's where the arguments, and the package variables that the reading takes, are together of bulk at most 1048576: NARROWER than '..Said'. Prove '..Said' where nothing that the law and all that it calls make is longer than what came in: it says more and counts as full. Else prove '..UptoSaid'. A law counts once. -/
mutual
def uptoBulk {H : Type} : DataW H → Nat
  | .lit (.string bytes) => bytes.length + 1
  | .lit _ => 1
  | .nil => 1
  | .ptr d => uptoBulk d + 1
  | .slice elems spare => uptoBulkAll elems + uptoBulkAll spare + 1
  | .agg parts => uptoBulkAll parts + 1
  | .iface _ d => uptoBulk d + 1
  | .map entries => uptoBulkEntries entries + 1
  | .held _ => 1
def uptoBulkAll {H : Type} : List (DataW H) → Nat
  | [] => 0
  | d :: r => uptoBulk d + uptoBulkAll r
def uptoBulkEntries {H : Type} : List (Lit × DataW H) → Nat
  | [] => 0
  | x :: r => uptoBulkEntry x + uptoBulkEntries r
def uptoBulkEntry {H : Type} : Lit × DataW H → Nat
  | (.string bytes, d) => bytes.length + uptoBulk d + 1
  | (_, d) => uptoBulk d + 1
 end
def uptoSmall : (H : Type) → List (DataW H) → Bool := fun _ ds => decide (uptoBulkAll ds ≤ 1048576)
def OpenSpec.upto (s : _root_.Go.ChangeSpec) : _root_.Go.OpenSpec := { _root_.Go.OpenSpec.ofChange s with cond := some uptoSmall }

/-- 'laws.FnExactIsSystem', WHERE WHAT IT READS IS OF BULK AT MOST 1048576: true; the input reads as it did. -/
def fnExactIsSystemUptoRow : OpenClaim := { program := "ytffjlecibpmgiaa", sum := "4edbd982eee75b079b06c23ea3c925bd362d13d98e4f660daabf222047935ad1", func := "loop.example/g01110/laws.FnExactIsSystem", spec := "fnExactIsSystem", apart := false, narrowed := true }
def FnExactIsSystemUptoSaid : Prop := fnExactIsSystemUptoRow.holds Try.pinned (OpenSpec.upto fnExactIsSystemSpec)

/-- 'laws.FnExactCoveredBy', WHERE WHAT IT READS IS OF BULK AT MOST 1048576: true; the input reads as it did. -/
def fnExactCoveredByUptoRow : OpenClaim := { program := "ytffjlecibpmgiaa", sum := "4edbd982eee75b079b06c23ea3c925bd362d13d98e4f660daabf222047935ad1", func := "loop.example/g01110/laws.FnExactCoveredBy", spec := "fnExactCoveredBy", recurses := true, apart := false, narrowed := true }
def FnExactCoveredByUptoSaid : Prop := fnExactCoveredByUptoRow.holds Try.pinned (OpenSpec.upto fnExactCoveredBySpec)

/-- 'laws.FnExactIsCover', WHERE WHAT IT READS IS OF BULK AT MOST 1048576: true; the input reads as it did. -/
def fnExactIsCoverUptoRow : OpenClaim := { program := "ytffjlecibpmgiaa", sum := "4edbd982eee75b079b06c23ea3c925bd362d13d98e4f660daabf222047935ad1", func := "loop.example/g01110/laws.FnExactIsCover", spec := "fnExactIsCover", recurses := true, apart := false, narrowed := true }
def FnExactIsCoverUptoSaid : Prop := fnExactIsCoverUptoRow.holds Try.pinned (OpenSpec.upto fnExactIsCoverSpec)

/-- 'laws.FnExactCostOf', WHERE WHAT IT READS IS OF BULK AT MOST 1048576: true; the input reads as it did. -/
def fnExactCostOfUptoRow : OpenClaim := { program := "ytffjlecibpmgiaa", sum := "4edbd982eee75b079b06c23ea3c925bd362d13d98e4f660daabf222047935ad1", func := "loop.example/g01110/laws.FnExactCostOf", spec := "fnExactCostOf", apart := false, narrowed := true }
def FnExactCostOfUptoSaid : Prop := fnExactCostOfUptoRow.holds Try.pinned (OpenSpec.upto fnExactCostOfSpec)

/-- 'laws.FnExactHarmonicOf', WHERE WHAT IT READS IS OF BULK AT MOST 1048576: true; the input reads as it did. -/
def fnExactHarmonicOfUptoRow : OpenClaim := { program := "ytffjlecibpmgiaa", sum := "4edbd982eee75b079b06c23ea3c925bd362d13d98e4f660daabf222047935ad1", func := "loop.example/g01110/laws.FnExactHarmonicOf", spec := "fnExactHarmonicOf", apart := false, narrowed := true }
def FnExactHarmonicOfUptoSaid : Prop := fnExactHarmonicOfUptoRow.holds Try.pinned (OpenSpec.upto fnExactHarmonicOfSpec)

/-- 'laws.FnExactArePrices', WHERE WHAT IT READS IS OF BULK AT MOST 1048576: true; the input reads as it did. -/
def fnExactArePricesUptoRow : OpenClaim := { program := "ytffjlecibpmgiaa", sum := "4edbd982eee75b079b06c23ea3c925bd362d13d98e4f660daabf222047935ad1", func := "loop.example/g01110/laws.FnExactArePrices", spec := "fnExactArePrices", unfollowed := true, recurses := true, apart := false, narrowed := true }
def FnExactArePricesUptoSaid : Prop := fnExactArePricesUptoRow.holds Try.pinned (OpenSpec.upto fnExactArePricesSpec)

/-- 'laws.FnExactRaisePrices', WHERE WHAT IT READS IS OF BULK AT MOST 1048576: true; the input reads as it did. -/
def fnExactRaisePricesUptoRow : OpenClaim := { program := "ytffjlecibpmgiaa", sum := "4edbd982eee75b079b06c23ea3c925bd362d13d98e4f660daabf222047935ad1", func := "loop.example/g01110/laws.FnExactRaisePrices", spec := "fnExactRaisePrices", unfollowed := true, recurses := true, apart := false, narrowed := true }
def FnExactRaisePricesUptoSaid : Prop := fnExactRaisePricesUptoRow.holds Try.pinned (OpenSpec.upto fnExactRaisePricesSpec)

/-- 'laws.FnExactTurnSystem', WHERE WHAT IT READS IS OF BULK AT MOST 1048576: true; the input reads as it did. -/
def fnExactTurnSystemUptoRow : OpenClaim := { program := "ytffjlecibpmgiaa", sum := "4edbd982eee75b079b06c23ea3c925bd362d13d98e4f660daabf222047935ad1", func := "loop.example/g01110/laws.FnExactTurnSystem", spec := "fnExactTurnSystem", unfollowed := true, recurses := true, apart := false, narrowed := true }
def FnExactTurnSystemUptoSaid : Prop := fnExactTurnSystemUptoRow.holds Try.pinned (OpenSpec.upto fnExactTurnSystemSpec)

/-- 'laws.FnExactStabPoints', WHERE WHAT IT READS IS OF BULK AT MOST 1048576: true; the input reads as it did. -/
def fnExactStabPointsUptoRow : OpenClaim := { program := "ytffjlecibpmgiaa", sum := "4edbd982eee75b079b06c23ea3c925bd362d13d98e4f660daabf222047935ad1", func := "loop.example/g01110/laws.FnExactStabPoints", spec := "fnExactStabPoints", unfollowed := true, recurses := true, apart := false, narrowed := true }
def FnExactStabPointsUptoSaid : Prop := fnExactStabPointsUptoRow.holds Try.pinned (OpenSpec.upto fnExactStabPointsSpec)

/-- 'laws.FnExactApartIntervals', WHERE WHAT IT READS IS OF BULK AT MOST 1048576: true; the input reads as it did. -/
def fnExactApartIntervalsUptoRow : OpenClaim := { program := "ytffjlecibpmgiaa", sum := "4edbd982eee75b079b06c23ea3c925bd362d13d98e4f660daabf222047935ad1", func := "loop.example/g01110/laws.FnExactApartIntervals", spec := "fnExactApartIntervals", unfollowed := true, recurses := true, apart := false, narrowed := true }
def FnExactApartIntervalsUptoSaid : Prop := fnExactApartIntervalsUptoRow.holds Try.pinned (OpenSpec.upto fnExactApartIntervalsSpec)

end Rows
end Go.Proofs.Ytffjlecibpmgiaa
