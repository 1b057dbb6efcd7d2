/-
  No cell of these rows narrows 'for every input' (looked for: loops, veiled, ifaces, maps, wideKeys, modest, calm, conditions, laid).
  DERIVED. THE GIVEN ROWS OF THIS SEAT. 3 by the template 'for every input the law returns true; each argument reads behind the call as it read before'; 0 by the template 'total and deterministic' (their statements: YtemflcegkebloaaTotals.lean).
  GIVEN WITH THE SEED: the statements are not yours to turn. If you find one false, say at which input.
  Laid BY PROGRAM, IN A SANDBOX (cutbox-rows.mjs): the forced cells as the released guide's own fill.sh prints them over the translation 2f863967a08b7217… (all of the seat's roots in one cut). By AI agents, Wed Nov 11 2026. No macro, syntax, notation, axiom, sorry.
-/
import Derived.Test.YtemflcegkebloaaChecked
import GoSem.Claim
import GoSem.ClaimJoined
import GoSem.ClaimMapViews
import Derived.JoinedTies
import Derived.KernelRfl
namespace Go.Proofs.Ytemflcegkebloaa
/- THE CELL 'sum', in the pinned program and in every row, IS THE sha256 OF THE DUMP (.gsa) THAT YtemflcegkebloaaProg.lean LOADS. Nothing in Lean hashes anything: it is a label: what it is worth is what the hold of that sum in a sandbox is worth. -/
noncomputable def Try.pinned : Pinned := { name := "ytemflcegkebloaa", sum := "2f863967a08b7217593ed905cf0dade1c0c0318fae05bb5eaa3665a463503d12", checked := Try.checked }
namespace Rows
def none {H : Type} : Left H := { results := [], args := [] }

/-- 'laws.FnExactBestUnder': WHATEVER THE INPUT: true; the input reads as it did. -/
def fnExactBestUnderSpec : ChangeSpec := { name := "fnExactBestUnder", fn := fun _ => fun
  | [d1, d2, d3, d4] => { results := [.lit (.bool true)], args := [d1, d2, d3, d4] }
  | _ => none }
def fnExactBestUnderRow : OpenClaim := { program := "ytemflcegkebloaa", sum := "2f863967a08b7217593ed905cf0dade1c0c0318fae05bb5eaa3665a463503d12", func := "loop.example/g01110/laws.FnExactBestUnder", spec := "fnExactBestUnder", unfollowed := true, recurses := true, apart := false }
def FnExactBestUnderSaid : Prop := fnExactBestUnderRow.holds Try.pinned (OpenSpec.ofChange fnExactBestUnderSpec)

/-- ITS FALSE NEIGHBOUR: 'it returns false'. Refute it at one input. -/
def fnExactBestUnderWrong : ChangeSpec := { name := "fnExactBestUnder", fn := fun _ => fun
  | [d1, d2, d3, d4] => { results := [.lit (.bool false)], args := [d1, d2, d3, d4] }
  | _ => none }
def FnExactBestUnderWrongFalsely : Prop := fnExactBestUnderRow.holds Try.pinned (OpenSpec.ofChange fnExactBestUnderWrong)

/-- 'laws.FnExactFrontOf': WHATEVER THE INPUT: true; the input reads as it did. -/
def fnExactFrontOfSpec : ChangeSpec := { name := "fnExactFrontOf", fn := fun _ => fun
  | [d1, d2, d3] => { results := [.lit (.bool true)], args := [d1, d2, d3] }
  | _ => none }
def fnExactFrontOfRow : OpenClaim := { program := "ytemflcegkebloaa", sum := "2f863967a08b7217593ed905cf0dade1c0c0318fae05bb5eaa3665a463503d12", func := "loop.example/g01110/laws.FnExactFrontOf", spec := "fnExactFrontOf", unfollowed := true, recurses := true, apart := false }
def FnExactFrontOfSaid : Prop := fnExactFrontOfRow.holds Try.pinned (OpenSpec.ofChange fnExactFrontOfSpec)

/-- ITS FALSE NEIGHBOUR: 'it returns false'. Refute it at one input. -/
def fnExactFrontOfWrong : ChangeSpec := { name := "fnExactFrontOf", fn := fun _ => fun
  | [d1, d2, d3] => { results := [.lit (.bool false)], args := [d1, d2, d3] }
  | _ => none }
def FnExactFrontOfWrongFalsely : Prop := fnExactFrontOfRow.holds Try.pinned (OpenSpec.ofChange fnExactFrontOfWrong)

/-- 'laws.FnExactFrontSets': WHATEVER THE INPUT: true; the input reads as it did. -/
def fnExactFrontSetsSpec : ChangeSpec := { name := "fnExactFrontSets", fn := fun _ => fun
  | [d1, d2, d3] => { results := [.lit (.bool true)], args := [d1, d2, d3] }
  | _ => none }
def fnExactFrontSetsRow : OpenClaim := { program := "ytemflcegkebloaa", sum := "2f863967a08b7217593ed905cf0dade1c0c0318fae05bb5eaa3665a463503d12", func := "loop.example/g01110/laws.FnExactFrontSets", spec := "fnExactFrontSets", unfollowed := true, recurses := true, apart := false }
def FnExactFrontSetsSaid : Prop := fnExactFrontSetsRow.holds Try.pinned (OpenSpec.ofChange fnExactFrontSetsSpec)

/-- ITS FALSE NEIGHBOUR: 'it returns false'. Refute it at one input. -/
def fnExactFrontSetsWrong : ChangeSpec := { name := "fnExactFrontSets", fn := fun _ => fun
  | [d1, d2, d3] => { results := [.lit (.bool false)], args := [d1, d2, d3] }
  | _ => none }
def FnExactFrontSetsWrongFalsely : Prop := fnExactFrontSetsRow.holds Try.pinned (OpenSpec.ofChange fnExactFrontSetsWrong)

/- THE SECOND FORM. 'bulk': how many values and letters a reading holds, each counted each time it is reached (what is shared counts as often as it is met; a slice's spare places count too). A statement '..UptoSaid' is the law's where the arguments, and the package variables that the reading takes, are together of bulk at most 1048576: NARROWER than '..Said'. Prove '..Said' where nothing that the law and all that it calls make is longer than what came in: it says more and counts as full. Else prove '..UptoSaid'. A law counts once. -/
mutual
def uptoBulk {H : Type} : DataW H → Nat
  | .lit (.string bytes) => bytes.length + 1
  | .lit _ => 1
  | .nil => 1
  | .ptr d => uptoBulk d + 1
  | .slice elems spare => uptoBulkAll elems + uptoBulkAll spare + 1
  | .agg parts => uptoBulkAll parts + 1
  | .iface _ d => uptoBulk d + 1
  | .map entries => uptoBulkEntries entries + 1
  | .held _ => 1
def uptoBulkAll {H : Type} : List (DataW H) → Nat
  | [] => 0
  | d :: r => uptoBulk d + uptoBulkAll r
def uptoBulkEntries {H : Type} : List (Lit × DataW H) → Nat
  | [] => 0
  | x :: r => uptoBulkEntry x + uptoBulkEntries r
def uptoBulkEntry {H : Type} : Lit × DataW H → Nat
  | (.string bytes, d) => bytes.length + uptoBulk d + 1
  | (_, d) => uptoBulk d + 1
 end
def uptoSmall : (H : Type) → List (DataW H) → Bool := fun _ ds => decide (uptoBulkAll ds ≤ 1048576)
def OpenSpec.upto (s : _root_.Go.ChangeSpec) : _root_.Go.OpenSpec := { _root_.Go.OpenSpec.ofChange s with cond := some uptoSmall }

/-- 'laws.FnExactBestUnder', WHERE WHAT IT READS IS OF BULK AT MOST 1048576: true; the input reads as it did. -/
def fnExactBestUnderUptoRow : OpenClaim := { program := "ytemflcegkebloaa", sum := "2f863967a08b7217593ed905cf0dade1c0c0318fae05bb5eaa3665a463503d12", func := "loop.example/g01110/laws.FnExactBestUnder", spec := "fnExactBestUnder", unfollowed := true, recurses := true, apart := false, narrowed := true }
def FnExactBestUnderUptoSaid : Prop := fnExactBestUnderUptoRow.holds Try.pinned (OpenSpec.upto fnExactBestUnderSpec)

/-- 'laws.FnExactFrontOf', WHERE WHAT IT READS IS OF BULK AT MOST 1048576: true; the input reads as it did. -/
def fnExactFrontOfUptoRow : OpenClaim := { program := "ytemflcegkebloaa", sum := "2f863967a08b7217593ed905cf0dade1c0c0318fae05bb5eaa3665a463503d12", func := "loop.example/g01110/laws.FnExactFrontOf", spec := "fnExactFrontOf", unfollowed := true, recurses := true, apart := false, narrowed := true }
def FnExactFrontOfUptoSaid : Prop := fnExactFrontOfUptoRow.holds Try.pinned (OpenSpec.upto fnExactFrontOfSpec)

/-- 'laws.FnExactFrontSets', WHERE WHAT IT READS IS OF BULK AT MOST 1048576: true; the input reads as it did. -/
def fnExactFrontSetsUptoRow : OpenClaim := { program := "ytemflcegkebloaa", sum := "2f863967a08b7217593ed905cf0dade1c0c0318fae05bb5eaa3665a463503d12", func := "loop.example/g01110/laws.FnExactFrontSets", spec := "fnExactFrontSets", unfollowed := true, recurses := true, apart := false, narrowed := true }
def FnExactFrontSetsUptoSaid : Prop := fnExactFrontSetsUptoRow.holds Try.pinned (OpenSpec.upto fnExactFrontSetsSpec)

end Rows
end Go.Proofs.Ytemflcegkebloaa
