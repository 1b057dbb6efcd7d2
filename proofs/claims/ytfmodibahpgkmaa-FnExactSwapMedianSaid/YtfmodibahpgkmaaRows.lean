/-
  No cell of these rows narrows 'for every input' (looked for: loops, veiled, ifaces, maps, wideKeys, modest, calm, conditions, laid).
  DERIVED. THE GIVEN ROWS OF THIS SEAT. 12 by the template 'for every input the law returns true; each argument reads behind the call as it read before'; 0 by the template 'total and deterministic' (their statements: YtfmodibahpgkmaaTotals.lean).
  GIVEN WITH THE SEED: the statements are not yours to turn. If you find one false, say at which input.
  Laid BY PROGRAM, IN A SANDBOX (cutbox-rows.mjs): the forced cells as the released guide's own fill.sh prints them over the translation 8b3bf69fd24629c6… (all of the seat's roots in one cut). By AI agents, Wed Nov 11 2026. No macro, syntax, notation, axiom, sorry.
-/
import Derived.Test.YtfmodibahpgkmaaChecked
import GoSem.Claim
import GoSem.ClaimJoined
import GoSem.ClaimMapViews
import Derived.JoinedTies
import Derived.KernelRfl
namespace Go.Proofs.Ytfmodibahpgkmaa
/- THE CELL 'sum', in the pinned program and in every row, IS THE sha256 OF THE DUMP (.gsa) THAT YtfmodibahpgkmaaProg.lean LOADS. Nothing in Lean hashes anything: it is a label: what it is worth is what the hold of that sum in a sandbox is worth. -/
noncomputable def Try.pinned : Pinned := { name := "ytfmodibahpgkmaa", sum := "8b3bf69fd24629c6f147b21324a7498a51ced97f7f7f3d17d22e5d246d7abb4b", checked := Try.checked }
namespace Rows
def none {H : Type} : Left H := { results := [], args := [] }

/-- 'laws.FnExactServiceOf': WHATEVER THE INPUT: true; the input reads as it did. -/
def fnExactServiceOfSpec : ChangeSpec := { name := "fnExactServiceOf", fn := fun _ => fun
  | [d1, d2] => { results := [.lit (.bool true)], args := [d1, d2] }
  | _ => none }
def fnExactServiceOfRow : OpenClaim := { program := "ytfmodibahpgkmaa", sum := "8b3bf69fd24629c6f147b21324a7498a51ced97f7f7f3d17d22e5d246d7abb4b", func := "loop.example/g01110/laws.FnExactServiceOf", spec := "fnExactServiceOf", unfollowed := true, recurses := true, apart := false }
def FnExactServiceOfSaid : Prop := fnExactServiceOfRow.holds Try.pinned (OpenSpec.ofChange fnExactServiceOfSpec)

/-- ITS FALSE NEIGHBOUR: 'it returns false'. Refute it at one input. -/
def fnExactServiceOfWrong : ChangeSpec := { name := "fnExactServiceOf", fn := fun _ => fun
  | [d1, d2] => { results := [.lit (.bool false)], args := [d1, d2] }
  | _ => none }
def FnExactServiceOfWrongFalsely : Prop := fnExactServiceOfRow.holds Try.pinned (OpenSpec.ofChange fnExactServiceOfWrong)

/-- 'laws.FnExactJoinFields': WHATEVER THE INPUT: true; the input reads as it did. -/
def fnExactJoinFieldsSpec : ChangeSpec := { name := "fnExactJoinFields", fn := fun _ => fun
  | [d1, d2] => { results := [.lit (.bool true)], args := [d1, d2] }
  | _ => none }
def fnExactJoinFieldsRow : OpenClaim := { program := "ytfmodibahpgkmaa", sum := "8b3bf69fd24629c6f147b21324a7498a51ced97f7f7f3d17d22e5d246d7abb4b", func := "loop.example/g01110/laws.FnExactJoinFields", spec := "fnExactJoinFields", unfollowed := true, recurses := true, apart := false }
def FnExactJoinFieldsSaid : Prop := fnExactJoinFieldsRow.holds Try.pinned (OpenSpec.ofChange fnExactJoinFieldsSpec)

/-- ITS FALSE NEIGHBOUR: 'it returns false'. Refute it at one input. -/
def fnExactJoinFieldsWrong : ChangeSpec := { name := "fnExactJoinFields", fn := fun _ => fun
  | [d1, d2] => { results := [.lit (.bool false)], args := [d1, d2] }
  | _ => none }
def FnExactJoinFieldsWrongFalsely : Prop := fnExactJoinFieldsRow.holds Try.pinned (OpenSpec.ofChange fnExactJoinFieldsWrong)

/-- 'laws.FnExactClosePath': WHATEVER THE INPUT: true; the input reads as it did. -/
def fnExactClosePathSpec : ChangeSpec := { name := "fnExactClosePath", fn := fun _ => fun
  | [d] => { results := [.lit (.bool true)], args := [d] }
  | _ => none }
def fnExactClosePathRow : OpenClaim := { program := "ytfmodibahpgkmaa", sum := "8b3bf69fd24629c6f147b21324a7498a51ced97f7f7f3d17d22e5d246d7abb4b", func := "loop.example/g01110/laws.FnExactClosePath", spec := "fnExactClosePath", unfollowed := true, recurses := true, apart := false }
def FnExactClosePathSaid : Prop := fnExactClosePathRow.holds Try.pinned (OpenSpec.ofChange fnExactClosePathSpec)

/-- ITS FALSE NEIGHBOUR: 'it returns false'. Refute it at one input. -/
def fnExactClosePathWrong : ChangeSpec := { name := "fnExactClosePath", fn := fun _ => fun
  | [d] => { results := [.lit (.bool false)], args := [d] }
  | _ => none }
def FnExactClosePathWrongFalsely : Prop := fnExactClosePathRow.holds Try.pinned (OpenSpec.ofChange fnExactClosePathWrong)

/-- 'laws.FnExactSwapGain': WHATEVER THE INPUT: true; the input reads as it did. -/
def fnExactSwapGainSpec : ChangeSpec := { name := "fnExactSwapGain", fn := fun _ => fun
  | [d1, d2, d3, d4] => { results := [.lit (.bool true)], args := [d1, d2, d3, d4] }
  | _ => none }
def fnExactSwapGainRow : OpenClaim := { program := "ytfmodibahpgkmaa", sum := "8b3bf69fd24629c6f147b21324a7498a51ced97f7f7f3d17d22e5d246d7abb4b", func := "loop.example/g01110/laws.FnExactSwapGain", spec := "fnExactSwapGain", unfollowed := true, recurses := true, apart := false }
def FnExactSwapGainSaid : Prop := fnExactSwapGainRow.holds Try.pinned (OpenSpec.ofChange fnExactSwapGainSpec)

/-- ITS FALSE NEIGHBOUR: 'it returns false'. Refute it at one input. -/
def fnExactSwapGainWrong : ChangeSpec := { name := "fnExactSwapGain", fn := fun _ => fun
  | [d1, d2, d3, d4] => { results := [.lit (.bool false)], args := [d1, d2, d3, d4] }
  | _ => none }
def FnExactSwapGainWrongFalsely : Prop := fnExactSwapGainRow.holds Try.pinned (OpenSpec.ofChange fnExactSwapGainWrong)

/-- 'laws.FnExactBestSwap': WHATEVER THE INPUT: true; the input reads as it did. -/
def fnExactBestSwapSpec : ChangeSpec := { name := "fnExactBestSwap", fn := fun _ => fun
  | [d1, d2] => { results := [.lit (.bool true)], args := [d1, d2] }
  | _ => none }
def fnExactBestSwapRow : OpenClaim := { program := "ytfmodibahpgkmaa", sum := "8b3bf69fd24629c6f147b21324a7498a51ced97f7f7f3d17d22e5d246d7abb4b", func := "loop.example/g01110/laws.FnExactBestSwap", spec := "fnExactBestSwap", unfollowed := true, recurses := true, apart := false }
def FnExactBestSwapSaid : Prop := fnExactBestSwapRow.holds Try.pinned (OpenSpec.ofChange fnExactBestSwapSpec)

/-- ITS FALSE NEIGHBOUR: 'it returns false'. Refute it at one input. -/
def fnExactBestSwapWrong : ChangeSpec := { name := "fnExactBestSwap", fn := fun _ => fun
  | [d1, d2] => { results := [.lit (.bool false)], args := [d1, d2] }
  | _ => none }
def FnExactBestSwapWrongFalsely : Prop := fnExactBestSwapRow.holds Try.pinned (OpenSpec.ofChange fnExactBestSwapWrong)

/-- 'laws.FnExactIsSwapLocal': WHATEVER THE INPUT: true; the input reads as it did. -/
def fnExactIsSwapLocalSpec : ChangeSpec := { name := "fnExactIsSwapLocal", fn := fun _ => fun
  | [d1, d2] => { results := [.lit (.bool true)], args := [d1, d2] }
  | _ => none }
def fnExactIsSwapLocalRow : OpenClaim := { program := "ytfmodibahpgkmaa", sum := "8b3bf69fd24629c6f147b21324a7498a51ced97f7f7f3d17d22e5d246d7abb4b", func := "loop.example/g01110/laws.FnExactIsSwapLocal", spec := "fnExactIsSwapLocal", unfollowed := true, recurses := true, apart := false }
def FnExactIsSwapLocalSaid : Prop := fnExactIsSwapLocalRow.holds Try.pinned (OpenSpec.ofChange fnExactIsSwapLocalSpec)

/-- ITS FALSE NEIGHBOUR: 'it returns false'. Refute it at one input. -/
def fnExactIsSwapLocalWrong : ChangeSpec := { name := "fnExactIsSwapLocal", fn := fun _ => fun
  | [d1, d2] => { results := [.lit (.bool false)], args := [d1, d2] }
  | _ => none }
def FnExactIsSwapLocalWrongFalsely : Prop := fnExactIsSwapLocalRow.holds Try.pinned (OpenSpec.ofChange fnExactIsSwapLocalWrong)

/-- 'laws.FnExactSwapMedian': WHATEVER THE INPUT: true; the input reads as it did. -/
def fnExactSwapMedianSpec : ChangeSpec := { name := "fnExactSwapMedian", fn := fun _ => fun
  | [d1, d2] => { results := [.lit (.bool true)], args := [d1, d2] }
  | _ => none }
def fnExactSwapMedianRow : OpenClaim := { program := "ytfmodibahpgkmaa", sum := "8b3bf69fd24629c6f147b21324a7498a51ced97f7f7f3d17d22e5d246d7abb4b", func := "loop.example/g01110/laws.FnExactSwapMedian", spec := "fnExactSwapMedian", unfollowed := true, recurses := true, apart := false }
def FnExactSwapMedianSaid : Prop := fnExactSwapMedianRow.holds Try.pinned (OpenSpec.ofChange fnExactSwapMedianSpec)

/-- ITS FALSE NEIGHBOUR: 'it returns false'. Refute it at one input. -/
def fnExactSwapMedianWrong : ChangeSpec := { name := "fnExactSwapMedian", fn := fun _ => fun
  | [d1, d2] => { results := [.lit (.bool false)], args := [d1, d2] }
  | _ => none }
def FnExactSwapMedianWrongFalsely : Prop := fnExactSwapMedianRow.holds Try.pinned (OpenSpec.ofChange fnExactSwapMedianWrong)

/-- 'laws.FnExactLineField': WHATEVER THE INPUT: true; the input reads as it did. -/
def fnExactLineFieldSpec : ChangeSpec := { name := "fnExactLineField", fn := fun _ => fun
  | [d1, d2] => { results := [.lit (.bool true)], args := [d1, d2] }
  | _ => none }
def fnExactLineFieldRow : OpenClaim := { program := "ytfmodibahpgkmaa", sum := "8b3bf69fd24629c6f147b21324a7498a51ced97f7f7f3d17d22e5d246d7abb4b", func := "loop.example/g01110/laws.FnExactLineField", spec := "fnExactLineField", unfollowed := true, recurses := true, apart := false }
def FnExactLineFieldSaid : Prop := fnExactLineFieldRow.holds Try.pinned (OpenSpec.ofChange fnExactLineFieldSpec)

/-- ITS FALSE NEIGHBOUR: 'it returns false'. Refute it at one input. -/
def fnExactLineFieldWrong : ChangeSpec := { name := "fnExactLineField", fn := fun _ => fun
  | [d1, d2] => { results := [.lit (.bool false)], args := [d1, d2] }
  | _ => none }
def FnExactLineFieldWrongFalsely : Prop := fnExactLineFieldRow.holds Try.pinned (OpenSpec.ofChange fnExactLineFieldWrong)

/-- 'laws.FnExactTreeField': WHATEVER THE INPUT: true; the input reads as it did. -/
def fnExactTreeFieldSpec : ChangeSpec := { name := "fnExactTreeField", fn := fun _ => fun
  | [d1, d2] => { results := [.lit (.bool true)], args := [d1, d2] }
  | _ => none }
def fnExactTreeFieldRow : OpenClaim := { program := "ytfmodibahpgkmaa", sum := "8b3bf69fd24629c6f147b21324a7498a51ced97f7f7f3d17d22e5d246d7abb4b", func := "loop.example/g01110/laws.FnExactTreeField", spec := "fnExactTreeField", unfollowed := true, recurses := true, apart := false }
def FnExactTreeFieldSaid : Prop := fnExactTreeFieldRow.holds Try.pinned (OpenSpec.ofChange fnExactTreeFieldSpec)

/-- ITS FALSE NEIGHBOUR: 'it returns false'. Refute it at one input. -/
def fnExactTreeFieldWrong : ChangeSpec := { name := "fnExactTreeField", fn := fun _ => fun
  | [d1, d2] => { results := [.lit (.bool false)], args := [d1, d2] }
  | _ => none }
def FnExactTreeFieldWrongFalsely : Prop := fnExactTreeFieldRow.holds Try.pinned (OpenSpec.ofChange fnExactTreeFieldWrong)

/-- 'laws.FnExactMajorityNode': WHATEVER THE INPUT: true; the input reads as it did. -/
def fnExactMajorityNodeSpec : ChangeSpec := { name := "fnExactMajorityNode", fn := fun _ => fun
  | [d1, d2] => { results := [.lit (.bool true)], args := [d1, d2] }
  | _ => none }
def fnExactMajorityNodeRow : OpenClaim := { program := "ytfmodibahpgkmaa", sum := "8b3bf69fd24629c6f147b21324a7498a51ced97f7f7f3d17d22e5d246d7abb4b", func := "loop.example/g01110/laws.FnExactMajorityNode", spec := "fnExactMajorityNode", unfollowed := true, recurses := true, apart := false }
def FnExactMajorityNodeSaid : Prop := fnExactMajorityNodeRow.holds Try.pinned (OpenSpec.ofChange fnExactMajorityNodeSpec)

/-- ITS FALSE NEIGHBOUR: 'it returns false'. Refute it at one input. -/
def fnExactMajorityNodeWrong : ChangeSpec := { name := "fnExactMajorityNode", fn := fun _ => fun
  | [d1, d2] => { results := [.lit (.bool false)], args := [d1, d2] }
  | _ => none }
def FnExactMajorityNodeWrongFalsely : Prop := fnExactMajorityNodeRow.holds Try.pinned (OpenSpec.ofChange fnExactMajorityNodeWrong)

/-- 'laws.FnExactLineMedian': WHATEVER THE INPUT: true; the input reads as it did. -/
def fnExactLineMedianSpec : ChangeSpec := { name := "fnExactLineMedian", fn := fun _ => fun
  | [d1, d2, d3] => { results := [.lit (.bool true)], args := [d1, d2, d3] }
  | _ => none }
def fnExactLineMedianRow : OpenClaim := { program := "ytfmodibahpgkmaa", sum := "8b3bf69fd24629c6f147b21324a7498a51ced97f7f7f3d17d22e5d246d7abb4b", func := "loop.example/g01110/laws.FnExactLineMedian", spec := "fnExactLineMedian", unfollowed := true, recurses := true, apart := false }
def FnExactLineMedianSaid : Prop := fnExactLineMedianRow.holds Try.pinned (OpenSpec.ofChange fnExactLineMedianSpec)

/-- ITS FALSE NEIGHBOUR: 'it returns false'. Refute it at one input. -/
def fnExactLineMedianWrong : ChangeSpec := { name := "fnExactLineMedian", fn := fun _ => fun
  | [d1, d2, d3] => { results := [.lit (.bool false)], args := [d1, d2, d3] }
  | _ => none }
def FnExactLineMedianWrongFalsely : Prop := fnExactLineMedianRow.holds Try.pinned (OpenSpec.ofChange fnExactLineMedianWrong)

/-- 'laws.FnExactIsLocalOpening': WHATEVER THE INPUT: true; the input reads as it did. -/
def fnExactIsLocalOpeningSpec : ChangeSpec := { name := "fnExactIsLocalOpening", fn := fun _ => fun
  | [d1, d2] => { results := [.lit (.bool true)], args := [d1, d2] }
  | _ => none }
def fnExactIsLocalOpeningRow : OpenClaim := { program := "ytfmodibahpgkmaa", sum := "8b3bf69fd24629c6f147b21324a7498a51ced97f7f7f3d17d22e5d246d7abb4b", func := "loop.example/g01110/laws.FnExactIsLocalOpening", spec := "fnExactIsLocalOpening", unfollowed := true, recurses := true, apart := false }
def FnExactIsLocalOpeningSaid : Prop := fnExactIsLocalOpeningRow.holds Try.pinned (OpenSpec.ofChange fnExactIsLocalOpeningSpec)

/-- ITS FALSE NEIGHBOUR: 'it returns false'. Refute it at one input. -/
def fnExactIsLocalOpeningWrong : ChangeSpec := { name := "fnExactIsLocalOpening", fn := fun _ => fun
  | [d1, d2] => { results := [.lit (.bool false)], args := [d1, d2] }
  | _ => none }
def FnExactIsLocalOpeningWrongFalsely : Prop := fnExactIsLocalOpeningRow.holds Try.pinned (OpenSpec.ofChange fnExactIsLocalOpeningWrong)

/- THE SECOND FORM. 'bulk': how many values and letters a reading holds, each counted each time it is reached (what is shared counts as often as it is met; a slice's spare places count too). A statement '..UptoSaid' is the law's where the arguments, and the package variables that the reading takes, are together of bulk at most 1048576: NARROWER than '..Said'. Prove '..Said' where nothing that the law and all that it calls make is longer than what came in: it says more and counts as full. Else prove '..UptoSaid'. A law counts once. -/
mutual
def uptoBulk {H : Type} : DataW H → Nat
  | .lit (.string bytes) => bytes.length + 1
  | .lit _ => 1
  | .nil => 1
  | .ptr d => uptoBulk d + 1
  | .slice elems spare => uptoBulkAll elems + uptoBulkAll spare + 1
  | .agg parts => uptoBulkAll parts + 1
  | .iface _ d => uptoBulk d + 1
  | .map entries => uptoBulkEntries entries + 1
  | .held _ => 1
def uptoBulkAll {H : Type} : List (DataW H) → Nat
  | [] => 0
  | d :: r => uptoBulk d + uptoBulkAll r
def uptoBulkEntries {H : Type} : List (Lit × DataW H) → Nat
  | [] => 0
  | x :: r => uptoBulkEntry x + uptoBulkEntries r
def uptoBulkEntry {H : Type} : Lit × DataW H → Nat
  | (.string bytes, d) => bytes.length + uptoBulk d + 1
  | (_, d) => uptoBulk d + 1
 end
def uptoSmall : (H : Type) → List (DataW H) → Bool := fun _ ds => decide (uptoBulkAll ds ≤ 1048576)
def OpenSpec.upto (s : _root_.Go.ChangeSpec) : _root_.Go.OpenSpec := { _root_.Go.OpenSpec.ofChange s with cond := some uptoSmall }

/-- 'laws.FnExactServiceOf', WHERE WHAT IT READS IS OF BULK AT MOST 1048576: true; the input reads as it did. -/
def fnExactServiceOfUptoRow : OpenClaim := { program := "ytfmodibahpgkmaa", sum := "8b3bf69fd24629c6f147b21324a7498a51ced97f7f7f3d17d22e5d246d7abb4b", func := "loop.example/g01110/laws.FnExactServiceOf", spec := "fnExactServiceOf", unfollowed := true, recurses := true, apart := false, narrowed := true }
def FnExactServiceOfUptoSaid : Prop := fnExactServiceOfUptoRow.holds Try.pinned (OpenSpec.upto fnExactServiceOfSpec)

/-- 'laws.FnExactJoinFields', WHERE WHAT IT READS IS OF BULK AT MOST 1048576: true; the input reads as it did. -/
def fnExactJoinFieldsUptoRow : OpenClaim := { program := "ytfmodibahpgkmaa", sum := "8b3bf69fd24629c6f147b21324a7498a51ced97f7f7f3d17d22e5d246d7abb4b", func := "loop.example/g01110/laws.FnExactJoinFields", spec := "fnExactJoinFields", unfollowed := true, recurses := true, apart := false, narrowed := true }
def FnExactJoinFieldsUptoSaid : Prop := fnExactJoinFieldsUptoRow.holds Try.pinned (OpenSpec.upto fnExactJoinFieldsSpec)

/-- 'laws.FnExactClosePath', WHERE WHAT IT READS IS OF BULK AT MOST 1048576: true; the input reads as it did. -/
def fnExactClosePathUptoRow : OpenClaim := { program := "ytfmodibahpgkmaa", sum := "8b3bf69fd24629c6f147b21324a7498a51ced97f7f7f3d17d22e5d246d7abb4b", func := "loop.example/g01110/laws.FnExactClosePath", spec := "fnExactClosePath", unfollowed := true, recurses := true, apart := false, narrowed := true }
def FnExactClosePathUptoSaid : Prop := fnExactClosePathUptoRow.holds Try.pinned (OpenSpec.upto fnExactClosePathSpec)

/-- 'laws.FnExactSwapGain', WHERE WHAT IT READS IS OF BULK AT MOST 1048576: true; the input reads as it did. -/
def fnExactSwapGainUptoRow : OpenClaim := { program := "ytfmodibahpgkmaa", sum := "8b3bf69fd24629c6f147b21324a7498a51ced97f7f7f3d17d22e5d246d7abb4b", func := "loop.example/g01110/laws.FnExactSwapGain", spec := "fnExactSwapGain", unfollowed := true, recurses := true, apart := false, narrowed := true }
def FnExactSwapGainUptoSaid : Prop := fnExactSwapGainUptoRow.holds Try.pinned (OpenSpec.upto fnExactSwapGainSpec)

/-- 'laws.FnExactBestSwap', WHERE WHAT IT READS IS OF BULK AT MOST 1048576: true; the input reads as it did. -/
def fnExactBestSwapUptoRow : OpenClaim := { program := "ytfmodibahpgkmaa", sum := "8b3bf69fd24629c6f147b21324a7498a51ced97f7f7f3d17d22e5d246d7abb4b", func := "loop.example/g01110/laws.FnExactBestSwap", spec := "fnExactBestSwap", unfollowed := true, recurses := true, apart := false, narrowed := true }
def FnExactBestSwapUptoSaid : Prop := fnExactBestSwapUptoRow.holds Try.pinned (OpenSpec.upto fnExactBestSwapSpec)

/-- 'laws.FnExactIsSwapLocal', WHERE WHAT IT READS IS OF BULK AT MOST 1048576: true; the input reads as it did. -/
def fnExactIsSwapLocalUptoRow : OpenClaim := { program := "ytfmodibahpgkmaa", sum := "8b3bf69fd24629c6f147b21324a7498a51ced97f7f7f3d17d22e5d246d7abb4b", func := "loop.example/g01110/laws.FnExactIsSwapLocal", spec := "fnExactIsSwapLocal", unfollowed := true, recurses := true, apart := false, narrowed := true }
def FnExactIsSwapLocalUptoSaid : Prop := fnExactIsSwapLocalUptoRow.holds Try.pinned (OpenSpec.upto fnExactIsSwapLocalSpec)

/-- 'laws.FnExactSwapMedian', WHERE WHAT IT READS IS OF BULK AT MOST 1048576: true; the input reads as it did. -/
def fnExactSwapMedianUptoRow : OpenClaim := { program := "ytfmodibahpgkmaa", sum := "8b3bf69fd24629c6f147b21324a7498a51ced97f7f7f3d17d22e5d246d7abb4b", func := "loop.example/g01110/laws.FnExactSwapMedian", spec := "fnExactSwapMedian", unfollowed := true, recurses := true, apart := false, narrowed := true }
def FnExactSwapMedianUptoSaid : Prop := fnExactSwapMedianUptoRow.holds Try.pinned (OpenSpec.upto fnExactSwapMedianSpec)

/-- 'laws.FnExactLineField', WHERE WHAT IT READS IS OF BULK AT MOST 1048576: true; the input reads as it did. -/
def fnExactLineFieldUptoRow : OpenClaim := { program := "ytfmodibahpgkmaa", sum := "8b3bf69fd24629c6f147b21324a7498a51ced97f7f7f3d17d22e5d246d7abb4b", func := "loop.example/g01110/laws.FnExactLineField", spec := "fnExactLineField", unfollowed := true, recurses := true, apart := false, narrowed := true }
def FnExactLineFieldUptoSaid : Prop := fnExactLineFieldUptoRow.holds Try.pinned (OpenSpec.upto fnExactLineFieldSpec)

/-- 'laws.FnExactTreeField', WHERE WHAT IT READS IS OF BULK AT MOST 1048576: true; the input reads as it did. -/
def fnExactTreeFieldUptoRow : OpenClaim := { program := "ytfmodibahpgkmaa", sum := "8b3bf69fd24629c6f147b21324a7498a51ced97f7f7f3d17d22e5d246d7abb4b", func := "loop.example/g01110/laws.FnExactTreeField", spec := "fnExactTreeField", unfollowed := true, recurses := true, apart := false, narrowed := true }
def FnExactTreeFieldUptoSaid : Prop := fnExactTreeFieldUptoRow.holds Try.pinned (OpenSpec.upto fnExactTreeFieldSpec)

/-- 'laws.FnExactMajorityNode', WHERE WHAT IT READS IS OF BULK AT MOST 1048576: true; the input reads as it did. -/
def fnExactMajorityNodeUptoRow : OpenClaim := { program := "ytfmodibahpgkmaa", sum := "8b3bf69fd24629c6f147b21324a7498a51ced97f7f7f3d17d22e5d246d7abb4b", func := "loop.example/g01110/laws.FnExactMajorityNode", spec := "fnExactMajorityNode", unfollowed := true, recurses := true, apart := false, narrowed := true }
def FnExactMajorityNodeUptoSaid : Prop := fnExactMajorityNodeUptoRow.holds Try.pinned (OpenSpec.upto fnExactMajorityNodeSpec)

/-- 'laws.FnExactLineMedian', WHERE WHAT IT READS IS OF BULK AT MOST 1048576: true; the input reads as it did. -/
def fnExactLineMedianUptoRow : OpenClaim := { program := "ytfmodibahpgkmaa", sum := "8b3bf69fd24629c6f147b21324a7498a51ced97f7f7f3d17d22e5d246d7abb4b", func := "loop.example/g01110/laws.FnExactLineMedian", spec := "fnExactLineMedian", unfollowed := true, recurses := true, apart := false, narrowed := true }
def FnExactLineMedianUptoSaid : Prop := fnExactLineMedianUptoRow.holds Try.pinned (OpenSpec.upto fnExactLineMedianSpec)

/-- 'laws.FnExactIsLocalOpening', WHERE WHAT IT READS IS OF BULK AT MOST 1048576: true; the input reads as it did. -/
def fnExactIsLocalOpeningUptoRow : OpenClaim := { program := "ytfmodibahpgkmaa", sum := "8b3bf69fd24629c6f147b21324a7498a51ced97f7f7f3d17d22e5d246d7abb4b", func := "loop.example/g01110/laws.FnExactIsLocalOpening", spec := "fnExactIsLocalOpening", unfollowed := true, recurses := true, apart := false, narrowed := true }
def FnExactIsLocalOpeningUptoSaid : Prop := fnExactIsLocalOpeningUptoRow.holds Try.pinned (OpenSpec.upto fnExactIsLocalOpeningSpec)

end Rows
end Go.Proofs.Ytfmodibahpgkmaa
