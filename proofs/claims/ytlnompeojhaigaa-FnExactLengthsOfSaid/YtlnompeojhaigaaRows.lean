/-
  No cell of these rows narrows 'for every input' (looked for: loops, veiled, ifaces, maps, wideKeys, modest, calm, conditions, laid).
  DERIVED. THE GIVEN ROWS OF THIS SEAT. 10 by the template 'for every input the law returns true; each argument reads behind the call as it read before'; 0 by the template 'total and deterministic' (their statements: YtlnompeojhaigaaTotals.lean).
  GIVEN WITH THE SEED: the statements are not yours to turn. If you find one false, say at which input.
  Laid BY PROGRAM, IN A SANDBOX (cutbox-rows.mjs): the forced cells as the released guide's own fill.sh prints them over the translation 11b64098f5de37cf… (all of the seat's roots in one cut). By AI agents, Wed Nov 11 2026. No macro, syntax, notation, axiom, sorry.
-/
import Derived.Test.YtlnompeojhaigaaChecked
import GoSem.Claim
import GoSem.ClaimJoined
import GoSem.ClaimMapViews
import Derived.JoinedTies
import Derived.KernelRfl
namespace Go.Proofs.Ytlnompeojhaigaa
/- THE CELL 'sum', in the pinned program and in every row, IS THE sha256 OF THE DUMP (.gsa) THAT YtlnompeojhaigaaProg.lean LOADS. Nothing in Lean hashes anything: it is a label: what it is worth is what the hold of that sum in a sandbox is worth. -/
noncomputable def Try.pinned : Pinned := { name := "ytlnompeojhaigaa", sum := "11b64098f5de37cf4ff94ea5c1d81b53eac5930e89fe6b6cffd68bf581d384e1", checked := Try.checked }
namespace Rows
def none {H : Type} : Left H := { results := [], args := [] }

/-- 'laws.FnExactLengthsOf': WHATEVER THE INPUT: true; the input reads as it did. -/
def fnExactLengthsOfSpec : ChangeSpec := { name := "fnExactLengthsOf", fn := fun _ => fun
  | [d] => { results := [.lit (.bool true)], args := [d] }
  | _ => none }
def fnExactLengthsOfRow : OpenClaim := { program := "ytlnompeojhaigaa", sum := "11b64098f5de37cf4ff94ea5c1d81b53eac5930e89fe6b6cffd68bf581d384e1", func := "loop.example/g01110/laws.FnExactLengthsOf", spec := "fnExactLengthsOf", unfollowed := true, recurses := true, apart := false }
def FnExactLengthsOfSaid : Prop := fnExactLengthsOfRow.holds Try.pinned (OpenSpec.ofChange fnExactLengthsOfSpec)

/-- ITS FALSE NEIGHBOUR: 'it returns false'. Refute it at one input. -/
def fnExactLengthsOfWrong : ChangeSpec := { name := "fnExactLengthsOf", fn := fun _ => fun
  | [d] => { results := [.lit (.bool false)], args := [d] }
  | _ => none }
def FnExactLengthsOfWrongFalsely : Prop := fnExactLengthsOfRow.holds Try.pinned (OpenSpec.ofChange fnExactLengthsOfWrong)

/-- 'laws.FnExactClientsWithin': WHATEVER THE INPUT: true; the input reads as it did. -/
def fnExactClientsWithinSpec : ChangeSpec := { name := "fnExactClientsWithin", fn := fun _ => fun
  | [d1, d2, d3] => { results := [.lit (.bool true)], args := [d1, d2, d3] }
  | _ => none }
def fnExactClientsWithinRow : OpenClaim := { program := "ytlnompeojhaigaa", sum := "11b64098f5de37cf4ff94ea5c1d81b53eac5930e89fe6b6cffd68bf581d384e1", func := "loop.example/g01110/laws.FnExactClientsWithin", spec := "fnExactClientsWithin", unfollowed := true, recurses := true, apart := false }
def FnExactClientsWithinSaid : Prop := fnExactClientsWithinRow.holds Try.pinned (OpenSpec.ofChange fnExactClientsWithinSpec)

/-- ITS FALSE NEIGHBOUR: 'it returns false'. Refute it at one input. -/
def fnExactClientsWithinWrong : ChangeSpec := { name := "fnExactClientsWithin", fn := fun _ => fun
  | [d1, d2, d3] => { results := [.lit (.bool false)], args := [d1, d2, d3] }
  | _ => none }
def FnExactClientsWithinWrongFalsely : Prop := fnExactClientsWithinRow.holds Try.pinned (OpenSpec.ofChange fnExactClientsWithinWrong)

/-- 'laws.FnExactRadiiOf': WHATEVER THE INPUT: true; the input reads as it did. -/
def fnExactRadiiOfSpec : ChangeSpec := { name := "fnExactRadiiOf", fn := fun _ => fun
  | [d1, d2] => { results := [.lit (.bool true)], args := [d1, d2] }
  | _ => none }
def fnExactRadiiOfRow : OpenClaim := { program := "ytlnompeojhaigaa", sum := "11b64098f5de37cf4ff94ea5c1d81b53eac5930e89fe6b6cffd68bf581d384e1", func := "loop.example/g01110/laws.FnExactRadiiOf", spec := "fnExactRadiiOf", unfollowed := true, recurses := true, apart := false }
def FnExactRadiiOfSaid : Prop := fnExactRadiiOfRow.holds Try.pinned (OpenSpec.ofChange fnExactRadiiOfSpec)

/-- ITS FALSE NEIGHBOUR: 'it returns false'. Refute it at one input. -/
def fnExactRadiiOfWrong : ChangeSpec := { name := "fnExactRadiiOf", fn := fun _ => fun
  | [d1, d2] => { results := [.lit (.bool false)], args := [d1, d2] }
  | _ => none }
def FnExactRadiiOfWrongFalsely : Prop := fnExactRadiiOfRow.holds Try.pinned (OpenSpec.ofChange fnExactRadiiOfWrong)

/-- 'laws.FnExactGapOf': WHATEVER THE INPUT: true; the input reads as it did. -/
def fnExactGapOfSpec : ChangeSpec := { name := "fnExactGapOf", fn := fun _ => fun
  | [d1, d2, d3] => { results := [.lit (.bool true)], args := [d1, d2, d3] }
  | _ => none }
def fnExactGapOfRow : OpenClaim := { program := "ytlnompeojhaigaa", sum := "11b64098f5de37cf4ff94ea5c1d81b53eac5930e89fe6b6cffd68bf581d384e1", func := "loop.example/g01110/laws.FnExactGapOf", spec := "fnExactGapOf", unfollowed := true, recurses := true, apart := false }
def FnExactGapOfSaid : Prop := fnExactGapOfRow.holds Try.pinned (OpenSpec.ofChange fnExactGapOfSpec)

/-- ITS FALSE NEIGHBOUR: 'it returns false'. Refute it at one input. -/
def fnExactGapOfWrong : ChangeSpec := { name := "fnExactGapOf", fn := fun _ => fun
  | [d1, d2, d3] => { results := [.lit (.bool false)], args := [d1, d2, d3] }
  | _ => none }
def FnExactGapOfWrongFalsely : Prop := fnExactGapOfRow.holds Try.pinned (OpenSpec.ofChange fnExactGapOfWrong)

/-- 'laws.FnExactAreFarClients': WHATEVER THE INPUT: true; the input reads as it did. -/
def fnExactAreFarClientsSpec : ChangeSpec := { name := "fnExactAreFarClients", fn := fun _ => fun
  | [d1, d2, d3] => { results := [.lit (.bool true)], args := [d1, d2, d3] }
  | _ => none }
def fnExactAreFarClientsRow : OpenClaim := { program := "ytlnompeojhaigaa", sum := "11b64098f5de37cf4ff94ea5c1d81b53eac5930e89fe6b6cffd68bf581d384e1", func := "loop.example/g01110/laws.FnExactAreFarClients", spec := "fnExactAreFarClients", unfollowed := true, recurses := true, apart := false }
def FnExactAreFarClientsSaid : Prop := fnExactAreFarClientsRow.holds Try.pinned (OpenSpec.ofChange fnExactAreFarClientsSpec)

/-- ITS FALSE NEIGHBOUR: 'it returns false'. Refute it at one input. -/
def fnExactAreFarClientsWrong : ChangeSpec := { name := "fnExactAreFarClients", fn := fun _ => fun
  | [d1, d2, d3] => { results := [.lit (.bool false)], args := [d1, d2, d3] }
  | _ => none }
def FnExactAreFarClientsWrongFalsely : Prop := fnExactAreFarClientsRow.holds Try.pinned (OpenSpec.ofChange fnExactAreFarClientsWrong)

/-- 'laws.FnExactFarthestClients': WHATEVER THE INPUT: true; the input reads as it did. -/
def fnExactFarthestClientsSpec : ChangeSpec := { name := "fnExactFarthestClients", fn := fun _ => fun
  | [d1, d2] => { results := [.lit (.bool true)], args := [d1, d2] }
  | _ => none }
def fnExactFarthestClientsRow : OpenClaim := { program := "ytlnompeojhaigaa", sum := "11b64098f5de37cf4ff94ea5c1d81b53eac5930e89fe6b6cffd68bf581d384e1", func := "loop.example/g01110/laws.FnExactFarthestClients", spec := "fnExactFarthestClients", unfollowed := true, recurses := true, apart := false }
def FnExactFarthestClientsSaid : Prop := fnExactFarthestClientsRow.holds Try.pinned (OpenSpec.ofChange fnExactFarthestClientsSpec)

/-- ITS FALSE NEIGHBOUR: 'it returns false'. Refute it at one input. -/
def fnExactFarthestClientsWrong : ChangeSpec := { name := "fnExactFarthestClients", fn := fun _ => fun
  | [d1, d2] => { results := [.lit (.bool false)], args := [d1, d2] }
  | _ => none }
def FnExactFarthestClientsWrongFalsely : Prop := fnExactFarthestClientsRow.holds Try.pinned (OpenSpec.ofChange fnExactFarthestClientsWrong)

/-- 'laws.FnExactFarthestSites': WHATEVER THE INPUT: true; the input reads as it did. -/
def fnExactFarthestSitesSpec : ChangeSpec := { name := "fnExactFarthestSites", fn := fun _ => fun
  | [d1, d2] => { results := [.lit (.bool true)], args := [d1, d2] }
  | _ => none }
def fnExactFarthestSitesRow : OpenClaim := { program := "ytlnompeojhaigaa", sum := "11b64098f5de37cf4ff94ea5c1d81b53eac5930e89fe6b6cffd68bf581d384e1", func := "loop.example/g01110/laws.FnExactFarthestSites", spec := "fnExactFarthestSites", unfollowed := true, recurses := true, apart := false }
def FnExactFarthestSitesSaid : Prop := fnExactFarthestSitesRow.holds Try.pinned (OpenSpec.ofChange fnExactFarthestSitesSpec)

/-- ITS FALSE NEIGHBOUR: 'it returns false'. Refute it at one input. -/
def fnExactFarthestSitesWrong : ChangeSpec := { name := "fnExactFarthestSites", fn := fun _ => fun
  | [d1, d2] => { results := [.lit (.bool false)], args := [d1, d2] }
  | _ => none }
def FnExactFarthestSitesWrongFalsely : Prop := fnExactFarthestSitesRow.holds Try.pinned (OpenSpec.ofChange fnExactFarthestSitesWrong)

/-- 'laws.FnExactThresholdClients': WHATEVER THE INPUT: true; the input reads as it did. -/
def fnExactThresholdClientsSpec : ChangeSpec := { name := "fnExactThresholdClients", fn := fun _ => fun
  | [d1, d2] => { results := [.lit (.bool true)], args := [d1, d2] }
  | _ => none }
def fnExactThresholdClientsRow : OpenClaim := { program := "ytlnompeojhaigaa", sum := "11b64098f5de37cf4ff94ea5c1d81b53eac5930e89fe6b6cffd68bf581d384e1", func := "loop.example/g01110/laws.FnExactThresholdClients", spec := "fnExactThresholdClients", unfollowed := true, recurses := true, apart := false }
def FnExactThresholdClientsSaid : Prop := fnExactThresholdClientsRow.holds Try.pinned (OpenSpec.ofChange fnExactThresholdClientsSpec)

/-- ITS FALSE NEIGHBOUR: 'it returns false'. Refute it at one input. -/
def fnExactThresholdClientsWrong : ChangeSpec := { name := "fnExactThresholdClients", fn := fun _ => fun
  | [d1, d2] => { results := [.lit (.bool false)], args := [d1, d2] }
  | _ => none }
def FnExactThresholdClientsWrongFalsely : Prop := fnExactThresholdClientsRow.holds Try.pinned (OpenSpec.ofChange fnExactThresholdClientsWrong)

/-- 'laws.FnExactThresholdSites': WHATEVER THE INPUT: true; the input reads as it did. -/
def fnExactThresholdSitesSpec : ChangeSpec := { name := "fnExactThresholdSites", fn := fun _ => fun
  | [d1, d2] => { results := [.lit (.bool true)], args := [d1, d2] }
  | _ => none }
def fnExactThresholdSitesRow : OpenClaim := { program := "ytlnompeojhaigaa", sum := "11b64098f5de37cf4ff94ea5c1d81b53eac5930e89fe6b6cffd68bf581d384e1", func := "loop.example/g01110/laws.FnExactThresholdSites", spec := "fnExactThresholdSites", unfollowed := true, recurses := true, apart := false }
def FnExactThresholdSitesSaid : Prop := fnExactThresholdSitesRow.holds Try.pinned (OpenSpec.ofChange fnExactThresholdSitesSpec)

/-- ITS FALSE NEIGHBOUR: 'it returns false'. Refute it at one input. -/
def fnExactThresholdSitesWrong : ChangeSpec := { name := "fnExactThresholdSites", fn := fun _ => fun
  | [d1, d2] => { results := [.lit (.bool false)], args := [d1, d2] }
  | _ => none }
def FnExactThresholdSitesWrongFalsely : Prop := fnExactThresholdSitesRow.holds Try.pinned (OpenSpec.ofChange fnExactThresholdSitesWrong)

/-- 'laws.FnExactJoinFields': WHATEVER THE INPUT: true; the input reads as it did. -/
def fnExactJoinFieldsSpec : ChangeSpec := { name := "fnExactJoinFields", fn := fun _ => fun
  | [d1, d2] => { results := [.lit (.bool true)], args := [d1, d2] }
  | _ => none }
def fnExactJoinFieldsRow : OpenClaim := { program := "ytlnompeojhaigaa", sum := "11b64098f5de37cf4ff94ea5c1d81b53eac5930e89fe6b6cffd68bf581d384e1", func := "loop.example/g01110/laws.FnExactJoinFields", spec := "fnExactJoinFields", unfollowed := true, recurses := true, apart := false }
def FnExactJoinFieldsSaid : Prop := fnExactJoinFieldsRow.holds Try.pinned (OpenSpec.ofChange fnExactJoinFieldsSpec)

/-- ITS FALSE NEIGHBOUR: 'it returns false'. Refute it at one input. -/
def fnExactJoinFieldsWrong : ChangeSpec := { name := "fnExactJoinFields", fn := fun _ => fun
  | [d1, d2] => { results := [.lit (.bool false)], args := [d1, d2] }
  | _ => none }
def FnExactJoinFieldsWrongFalsely : Prop := fnExactJoinFieldsRow.holds Try.pinned (OpenSpec.ofChange fnExactJoinFieldsWrong)

/- THE SECOND FORM. 'bulk': how many values and letters a reading holds, each counted each time it is reached (what is shared counts as often as it is met; a slice's spare places count too). A statement '..UptoSaid' is the law's where the arguments, and the package variables that the reading takes, are together of bulk at most 1048576: NARROWER than '..Said'. Prove '..Said' where nothing that the law and all that it calls make is longer than what came in: it says more and counts as full. Else prove '..UptoSaid'. A law counts once. -/
mutual
def uptoBulk {H : Type} : DataW H → Nat
  | .lit (.string bytes) => bytes.length + 1
  | .lit _ => 1
  | .nil => 1
  | .ptr d => uptoBulk d + 1
  | .slice elems spare => uptoBulkAll elems + uptoBulkAll spare + 1
  | .agg parts => uptoBulkAll parts + 1
  | .iface _ d => uptoBulk d + 1
  | .map entries => uptoBulkEntries entries + 1
  | .held _ => 1
def uptoBulkAll {H : Type} : List (DataW H) → Nat
  | [] => 0
  | d :: r => uptoBulk d + uptoBulkAll r
def uptoBulkEntries {H : Type} : List (Lit × DataW H) → Nat
  | [] => 0
  | x :: r => uptoBulkEntry x + uptoBulkEntries r
def uptoBulkEntry {H : Type} : Lit × DataW H → Nat
  | (.string bytes, d) => bytes.length + uptoBulk d + 1
  | (_, d) => uptoBulk d + 1
 end
def uptoSmall : (H : Type) → List (DataW H) → Bool := fun _ ds => decide (uptoBulkAll ds ≤ 1048576)
def OpenSpec.upto (s : _root_.Go.ChangeSpec) : _root_.Go.OpenSpec := { _root_.Go.OpenSpec.ofChange s with cond := some uptoSmall }

/-- 'laws.FnExactLengthsOf', WHERE WHAT IT READS IS OF BULK AT MOST 1048576: true; the input reads as it did. -/
def fnExactLengthsOfUptoRow : OpenClaim := { program := "ytlnompeojhaigaa", sum := "11b64098f5de37cf4ff94ea5c1d81b53eac5930e89fe6b6cffd68bf581d384e1", func := "loop.example/g01110/laws.FnExactLengthsOf", spec := "fnExactLengthsOf", unfollowed := true, recurses := true, apart := false, narrowed := true }
def FnExactLengthsOfUptoSaid : Prop := fnExactLengthsOfUptoRow.holds Try.pinned (OpenSpec.upto fnExactLengthsOfSpec)

/-- 'laws.FnExactClientsWithin', WHERE WHAT IT READS IS OF BULK AT MOST 1048576: true; the input reads as it did. -/
def fnExactClientsWithinUptoRow : OpenClaim := { program := "ytlnompeojhaigaa", sum := "11b64098f5de37cf4ff94ea5c1d81b53eac5930e89fe6b6cffd68bf581d384e1", func := "loop.example/g01110/laws.FnExactClientsWithin", spec := "fnExactClientsWithin", unfollowed := true, recurses := true, apart := false, narrowed := true }
def FnExactClientsWithinUptoSaid : Prop := fnExactClientsWithinUptoRow.holds Try.pinned (OpenSpec.upto fnExactClientsWithinSpec)

/-- 'laws.FnExactRadiiOf', WHERE WHAT IT READS IS OF BULK AT MOST 1048576: true; the input reads as it did. -/
def fnExactRadiiOfUptoRow : OpenClaim := { program := "ytlnompeojhaigaa", sum := "11b64098f5de37cf4ff94ea5c1d81b53eac5930e89fe6b6cffd68bf581d384e1", func := "loop.example/g01110/laws.FnExactRadiiOf", spec := "fnExactRadiiOf", unfollowed := true, recurses := true, apart := false, narrowed := true }
def FnExactRadiiOfUptoSaid : Prop := fnExactRadiiOfUptoRow.holds Try.pinned (OpenSpec.upto fnExactRadiiOfSpec)

/-- 'laws.FnExactGapOf', WHERE WHAT IT READS IS OF BULK AT MOST 1048576: true; the input reads as it did. -/
def fnExactGapOfUptoRow : OpenClaim := { program := "ytlnompeojhaigaa", sum := "11b64098f5de37cf4ff94ea5c1d81b53eac5930e89fe6b6cffd68bf581d384e1", func := "loop.example/g01110/laws.FnExactGapOf", spec := "fnExactGapOf", unfollowed := true, recurses := true, apart := false, narrowed := true }
def FnExactGapOfUptoSaid : Prop := fnExactGapOfUptoRow.holds Try.pinned (OpenSpec.upto fnExactGapOfSpec)

/-- 'laws.FnExactAreFarClients', WHERE WHAT IT READS IS OF BULK AT MOST 1048576: true; the input reads as it did. -/
def fnExactAreFarClientsUptoRow : OpenClaim := { program := "ytlnompeojhaigaa", sum := "11b64098f5de37cf4ff94ea5c1d81b53eac5930e89fe6b6cffd68bf581d384e1", func := "loop.example/g01110/laws.FnExactAreFarClients", spec := "fnExactAreFarClients", unfollowed := true, recurses := true, apart := false, narrowed := true }
def FnExactAreFarClientsUptoSaid : Prop := fnExactAreFarClientsUptoRow.holds Try.pinned (OpenSpec.upto fnExactAreFarClientsSpec)

/-- 'laws.FnExactFarthestClients', WHERE WHAT IT READS IS OF BULK AT MOST 1048576: true; the input reads as it did. -/
def fnExactFarthestClientsUptoRow : OpenClaim := { program := "ytlnompeojhaigaa", sum := "11b64098f5de37cf4ff94ea5c1d81b53eac5930e89fe6b6cffd68bf581d384e1", func := "loop.example/g01110/laws.FnExactFarthestClients", spec := "fnExactFarthestClients", unfollowed := true, recurses := true, apart := false, narrowed := true }
def FnExactFarthestClientsUptoSaid : Prop := fnExactFarthestClientsUptoRow.holds Try.pinned (OpenSpec.upto fnExactFarthestClientsSpec)

/-- 'laws.FnExactFarthestSites', WHERE WHAT IT READS IS OF BULK AT MOST 1048576: true; the input reads as it did. -/
def fnExactFarthestSitesUptoRow : OpenClaim := { program := "ytlnompeojhaigaa", sum := "11b64098f5de37cf4ff94ea5c1d81b53eac5930e89fe6b6cffd68bf581d384e1", func := "loop.example/g01110/laws.FnExactFarthestSites", spec := "fnExactFarthestSites", unfollowed := true, recurses := true, apart := false, narrowed := true }
def FnExactFarthestSitesUptoSaid : Prop := fnExactFarthestSitesUptoRow.holds Try.pinned (OpenSpec.upto fnExactFarthestSitesSpec)

/-- 'laws.FnExactThresholdClients', WHERE WHAT IT READS IS OF BULK AT MOST 1048576: true; the input reads as it did. -/
def fnExactThresholdClientsUptoRow : OpenClaim := { program := "ytlnompeojhaigaa", sum := "11b64098f5de37cf4ff94ea5c1d81b53eac5930e89fe6b6cffd68bf581d384e1", func := "loop.example/g01110/laws.FnExactThresholdClients", spec := "fnExactThresholdClients", unfollowed := true, recurses := true, apart := false, narrowed := true }
def FnExactThresholdClientsUptoSaid : Prop := fnExactThresholdClientsUptoRow.holds Try.pinned (OpenSpec.upto fnExactThresholdClientsSpec)

/-- 'laws.FnExactThresholdSites', WHERE WHAT IT READS IS OF BULK AT MOST 1048576: true; the input reads as it did. -/
def fnExactThresholdSitesUptoRow : OpenClaim := { program := "ytlnompeojhaigaa", sum := "11b64098f5de37cf4ff94ea5c1d81b53eac5930e89fe6b6cffd68bf581d384e1", func := "loop.example/g01110/laws.FnExactThresholdSites", spec := "fnExactThresholdSites", unfollowed := true, recurses := true, apart := false, narrowed := true }
def FnExactThresholdSitesUptoSaid : Prop := fnExactThresholdSitesUptoRow.holds Try.pinned (OpenSpec.upto fnExactThresholdSitesSpec)

/-- 'laws.FnExactJoinFields', WHERE WHAT IT READS IS OF BULK AT MOST 1048576: true; the input reads as it did. -/
def fnExactJoinFieldsUptoRow : OpenClaim := { program := "ytlnompeojhaigaa", sum := "11b64098f5de37cf4ff94ea5c1d81b53eac5930e89fe6b6cffd68bf581d384e1", func := "loop.example/g01110/laws.FnExactJoinFields", spec := "fnExactJoinFields", unfollowed := true, recurses := true, apart := false, narrowed := true }
def FnExactJoinFieldsUptoSaid : Prop := fnExactJoinFieldsUptoRow.holds Try.pinned (OpenSpec.upto fnExactJoinFieldsSpec)

end Rows
end Go.Proofs.Ytlnompeojhaigaa
