/- Proved here: called with any arguments, the law FnExactIsSubmodular returns true and the arguments read afterwards as they read before: impl.IsSubmodular answers as its model does, for all numbers and lists.
   Conditions: none but the statement's own (the arguments can be read as data). -/
import Derived.Test.YtmddijibplkngaaRows
import Derived.WalkKit
import Derived.ProofKit
import Derived.OpenShut
import Derived.ShutString
import Derived.Below
import Derived.ChangeOld
import Derived.HandedShaped
import Derived.Test.YtmddijibplkngaaOpen
import Derived.Test.YtmddijibplkngaaPairIsSubmodular
namespace Go.Proofs.Ytmddijibplkngaa.fnExactIsSubmodular
open Go.ChangeShapes Go.WideShapes Go.ChangeAt Go.RowKit
open Go.ChangeMaps (open_string shut_string)
set_option linter.unusedVariables false

theorem own : ownKnob Try.prog.godebug = none := by kernel_rfl
theorem laidOut : laidOutB Try.prog = true := by kernel_rfl
/- The walk of the law's body. -/
set_option maxRecDepth 100000 in
set_option maxHeartbeats 1500000 in
theorem walk (W : World) (a0 : Int) (w0 : (Lit.int .i64 a0).wf = true) (r1 : Row) (w1 : r1.At W)  :
    Calls Try.prog 7 #[.int .i64 a0, r1.val] W fun e w' => e = .returned (.bool true) ∧ Below W.heap.size W w' := by
  have hB_0 := Below.refl W.heap.size W
  have hlim1 : (r1.l.length : Int) ≤ 9223372036854775807 := by obtain ⟨q1, q2, _⟩ := w1; rw [iv_length] at q1; unfold maxLen at q2; omega
  have A1_0 := Lib.hid w1.in
  clear w1
  by_cases hbig1 : (1048576 : Int) < r1.l.length
  · show Calls _ _ #[.int .i64 a0, .slice r1.a r1.l.length r1.c] _ _
    go_enter Try.func7, Try.ntmps7
    go_wp2
    go_ret
    exact ⟨rfl, Below.refl _ _⟩
  have hs1 : r1.l.length ≤ 1048576 := by omega
  show Calls _ _ #[.int .i64 a0, .slice r1.a r1.l.length r1.c] _ _
  go_enter Try.func7, Try.ntmps7
  obtain ⟨v, b, cs, ci⟩ := isSubmodular_pair a0 r1 w0 hs1
  have CS := Lib.hid cs
  have CI := Lib.hid ci
  clear cs ci
  go_wp2_with fail
  refine (show Calls _ _ _ _ _ from toInts_row r1 W A1_0.out.at hs1).mono ?_
  rintro e W1 ⟨c1, rfl, hk, -, ho, hi, hb⟩
  have hkc1 := Lib.hid hk
  clear hk
  have A1_1 := Lib.hid (A1_0.out.on hb)
  clear A1_0
  have hB_1 := hB_0.trans (hb.mono hB_0.size)
  have hz_1 := hb.size
  clear hB_0 hb
  have Ic1_1 := Lib.hid hi
  have Oc1_1 := Lib.hid ho
  clear hi ho
  go_wp2_with fail
  refine (show Calls _ _ _ _ _ from CS.out c1 W1 Ic1_1.out.at hkc1.out).mono ?_
  rintro e W2 ⟨rfl, hb⟩
  have A1_2 := Lib.hid (A1_1.out.on hb)
  have Ic1_2 := Lib.hid (Ic1_1.out.on hb)
  have Oc1_2 := Lib.hid (Oc1_1.out.on hb)
  clear A1_1
  clear Ic1_1
  clear Oc1_1
  have hB_2 := hB_1.trans (hb.mono hB_1.size)
  have hz_2 := hb.size
  clear hB_1 hb
  clear Oc1_2
  clear Ic1_2
  go_wp2_with fail
  refine (show Calls _ _ _ _ _ from toInts_row r1 W2 A1_2.out.at hs1).mono ?_
  rintro e W3 ⟨x1, rfl, hk, -, ho, hi, hb⟩
  have hkx1 := Lib.hid hk
  clear hk
  have A1_3 := Lib.hid (A1_2.out.on hb)
  clear A1_2
  have hB_3 := hB_2.trans (hb.mono hB_2.size)
  have hz_3 := hb.size
  clear hB_2 hb
  have Ix1_3 := Lib.hid hi
  have Ox1_3 := Lib.hid ho
  clear hi ho
  go_wp2_with fail
  refine (show Calls _ _ _ _ _ from CI.out x1 W3 Ix1_3.out.at hkx1.out).mono ?_
  rintro e W4 ⟨rfl, hb⟩
  have A1_4 := Lib.hid (A1_3.out.on hb)
  have Ix1_4 := Lib.hid (Ix1_3.out.on hb)
  have Ox1_4 := Lib.hid (Ox1_3.out.on hb)
  clear A1_3
  clear Ix1_3
  clear Ox1_3
  have hB_4 := hB_3.trans (hb.mono hB_3.size)
  have hz_4 := hb.size
  clear hB_3 hb
  go_wp2_with fail
  refine (show Calls _ _ _ _ _ from toInts_row r1 W4 A1_4.out.at hs1).mono ?_
  rintro e W5 ⟨y1, rfl, hk, -, -, hi, hb⟩
  have hky1 := Lib.hid hk
  clear hk
  have A1_5 := Lib.hid (A1_4.out.on hb)
  have Ix1_5 := Lib.hid (Ix1_4.out.on hb)
  have Ox1_5 := Lib.hid (Ox1_4.out.on hb)
  clear A1_4
  clear Ix1_4
  clear Ox1_4
  have hB_5 := hB_4.trans (hb.mono hB_4.size)
  have hz_5 := hb.size
  clear hB_4 hb
  have hyx1 := eqRow_law x1 y1 W5 Ix1_5.out.at hi.at (hkx1.out.trans hky1.out.symm) (by rw [hkx1.out]; exact hs1)
  clear hi
  go_wp2_with fail
  refine (show Calls _ _ _ _ _ from hyx1).mono ?_
  rintro e W6 ⟨rfl, hb⟩
  clear hyx1
  have A1_6 := Lib.hid (A1_5.out.on hb)
  have Ix1_6 := Lib.hid (Ix1_5.out.on hb)
  have Ox1_6 := Lib.hid (Ox1_5.out.on hb)
  clear A1_5
  clear Ix1_5
  clear Ox1_5
  have hB_6 := hB_5.trans (hb.mono hB_5.size)
  have hz_6 := hb.size
  clear hB_5 hb
  go_wp2_with fail
  go_ret
  exact ⟨rfl, hB_6⟩

/- The row's step. -/
set_option maxRecDepth 100000 in
set_option maxHeartbeats 4000000 in
theorem lifted (os : Os) (started : os.Started) (H : Type) (enc : TypeId × Value → H) :
    ReturnsInHanded {} Try.checked os 7 .any (Rows.fnExactIsSubmodularSpec.pre6 enc Try.prog Try.f7 Rows.fnExactIsSubmodularRow.domain false) (Rows.fnExactIsSubmodularSpec.post enc Try.prog Try.f7 false true false false) := by
  refine returnsInHanded_of_change_shaped (C := Try.checked) own started (by kernel_rfl) Try.func7
    (ChangeSpec.witness6 (enc := enc) (C := Try.checked) false ⟨#[], #[.int .i64 0, .slice none 0 0], []⟩ 8 (by kernel_rfl) (by kernel_rfl) (by kernel_rfl) (by kernel_rfl)) ?_
  intro W base args ds gs before hval0 hW hcnd hsz0 hShape _
  have hval : ∀ (j : Nat) t v, Try.f7.params[j]? = some t → args[j]? = some v → Value.okWide Try.prog W .any base t v := hval0
  have hW' := hW
  obtain ⟨p, q, hA0, hV, rfl, hfz, hnd⟩ := hW
  have hA : DataW.TrodAll enc Try.prog W 0 (fun _ => true) true Try.f7.params.toList args.toList ds p := hA0
  rw [Try.params7] at hA hval
  obtain ⟨v0, vs0, d0, ds0, p0, q0, hargs, rfl, rfl, h0, more0⟩ := trodAll_cons hA
  obtain ⟨v1, vs1, d1, ds1, p1, q1, rfl, rfl, rfl, h1, more1⟩ := trodAll_cons more0
  obtain ⟨rfl, rfl, rfl⟩ := trodAll_nil more1
  obtain rfl : args = #[v0, v1] := by cases args; simp_all
  obtain ⟨rfl, rfl⟩ := trodVars_none hV
  obtain ⟨a0, rfl, rfl, rfl, w0⟩ := open_int Try.underlying3 (hval 0 3 v0 rfl rfl) h0
  have k1 := h1
  have lt1 : ∀ x ∈ p1, x.block < W.heap.size := by obtain ⟨m, hm⟩ := k1; exact DataW.trod_lt m _ _ _ hm
  obtain ⟨r1, rfl, w1⟩ := open_row (P := Try.prog) (W := W) Try.underlying22 Try.underlying3 (by kernel_rfl) (hval 1 22 v1 rfl rfl) h1
  clear hA0 hval0
  refine (walk W a0 w0 r1 w1 ).mono fun e W' ⟨he, bel⟩ => ?_
  subst he
  exact ⟨_, rfl, _, _, _, [], _, [], hW', trodAll_mk1 (shut_bool Try.underlying4 _), (trodAll_cons_mk (shut_int Try.underlying3 w0) (trodAll_cons_mk (Below.trod laidOut (by kernel_rfl) (of_decide_eq_true (by kernel_rfl)) k1 bel lt1) trodAll_mk0)), rfl, bel.frame _, fun h => by cases h⟩

theorem over : Rows.fnExactIsSubmodularRow.holds Try.pinned (OpenSpec.ofChange Rows.fnExactIsSubmodularSpec) :=
  OpenClaim.holds_of_wide 7 Try.f7 rfl rfl rfl rfl rfl rfl rfl ⟨rfl, rfl, rfl, rfl, rfl⟩ rfl rfl rfl rfl rfl (by kernel_rfl) Try.func7 (by kernel_rfl)
    (of_decide_eq_true (by kernel_rfl)) (by unfold Func.isWrapper; first | (rw [if_pos (by decide +kernel)]; kernel_rfl) | (rw [if_neg (by decide +kernel)]; exact ⟨rfl, rfl⟩))
    (fun os started H enc _ => lifted os started H enc)

/-- The statement. -/
theorem proved : Rows.FnExactIsSubmodularSaid :=
  over
#print axioms proved
end Go.Proofs.Ytmddijibplkngaa.fnExactIsSubmodular
