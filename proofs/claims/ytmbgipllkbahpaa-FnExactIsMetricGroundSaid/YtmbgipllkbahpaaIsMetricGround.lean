/- Proved here: called with any arguments, the law FnExactIsMetricGround returns true and the arguments read afterwards as they read before: impl.IsMetricGround answers as its model does, whether a ground is metric.
   Conditions: none but the statement's own (the arguments can be read as data). -/
import Derived.Test.YtmbgipllkbahpaaRows
import Derived.WalkKit
import Derived.ProofKit
import Derived.OpenShut
import Derived.ShutString
import Derived.Below
import Derived.ChangeOld
import Derived.HandedShaped
import Derived.Test.YtmbgipllkbahpaaOpen
import Derived.Test.YtmbgipllkbahpaaPairIsMetricGround
namespace Go.Proofs.Ytmbgipllkbahpaa.fnExactIsMetricGround
open Go.ChangeShapes Go.WideShapes Go.ChangeAt Go.RowKit
open Go.ChangeMaps (open_string shut_string)
set_option linter.unusedVariables false

theorem own : ownKnob Try.prog.godebug = none := by kernel_rfl
theorem laidOut : laidOutB Try.prog = true := by kernel_rfl
/- The walk of the law's body. -/
set_option maxRecDepth 100000 in
set_option maxHeartbeats 1500000 in
theorem walk (W : World) (T0 : Tab) (w0 : T0.At W)  :
    Calls Try.prog 4 #[T0.val] W fun e w' => e = .returned (.bool true) ∧ Below W.heap.size W w' := by
  have hB_0 := Below.refl W.heap.size W
  have A0_0 := Lib.hid w0.in
  clear w0
  show Calls _ _ #[.slice T0.a T0.R.length T0.c] _ _
  go_enter Try.func4, Try.ntmps4
  go_wp2_with fail
  refine (show Calls _ _ _ _ _ from szTab_law T0 1048576 W A0_0.out.at (by omega) (by omega)).mono ?_
  rintro e W1 ⟨⟨left0, rfl, hl0, hm0⟩, hb⟩
  have A0_1 := Lib.hid (A0_0.out.on hb)
  clear A0_0
  have hB_1 := hB_0.trans (hb.mono hB_0.size)
  have hz_1 := hb.size
  clear hB_0 hb
  by_cases hng0 : left0 < 0
  · go_wp2
    go_ret
    exact ⟨rfl, hB_1⟩
  have hs0 : T0.Small := by unfold Tab.Small; have := hl0 (by omega); omega
  have hle0 : left0 ≤ 1048576 := hm0
  obtain ⟨v, b, cs, ci⟩ := isMetricGround_pair T0 hs0
  have CS := Lib.hid cs
  have CI := Lib.hid ci
  clear cs ci
  go_wp2_with fail
  refine (show Calls _ _ _ _ _ from toTab_law T0 W1 A0_1.out.at hs0).mono ?_
  rintro e W2 ⟨c0, rfl, hk, ho, hi, hb⟩
  have hkc0 := Lib.hid hk
  clear hk
  have A0_2 := Lib.hid (A0_1.out.on hb)
  clear A0_1
  have hB_2 := hB_1.trans (hb.mono hB_1.size)
  have hz_2 := hb.size
  clear hB_1 hb
  have Ic0_2 := Lib.hid hi
  have Oc0_2 := Lib.hid ho
  clear hi ho
  go_wp2_with fail
  refine (show Calls _ _ _ _ _ from CS.out c0 W2 Ic0_2.out.at hkc0.out).mono ?_
  rintro e W3 ⟨rfl, hb⟩
  have A0_3 := Lib.hid (A0_2.out.on hb)
  have Ic0_3 := Lib.hid (Ic0_2.out.on hb)
  have Oc0_3 := Lib.hid (Oc0_2.out.on hb)
  clear A0_2
  clear Ic0_2
  clear Oc0_2
  have hB_3 := hB_2.trans (hb.mono hB_2.size)
  have hz_3 := hb.size
  clear hB_2 hb
  clear Oc0_3
  clear Ic0_3
  go_wp2_with fail
  refine (show Calls _ _ _ _ _ from toTab_law T0 W3 A0_3.out.at hs0).mono ?_
  rintro e W4 ⟨x0, rfl, hk, ho, hi, hb⟩
  have hkx0 := Lib.hid hk
  clear hk
  have A0_4 := Lib.hid (A0_3.out.on hb)
  clear A0_3
  have hB_4 := hB_3.trans (hb.mono hB_3.size)
  have hz_4 := hb.size
  clear hB_3 hb
  have Ix0_4 := Lib.hid hi
  have Ox0_4 := Lib.hid ho
  clear hi ho
  go_wp2_with fail
  refine (show Calls _ _ _ _ _ from CI.out x0 W4 Ix0_4.out.at hkx0.out).mono ?_
  rintro e W5 ⟨rfl, hb⟩
  have A0_5 := Lib.hid (A0_4.out.on hb)
  have Ix0_5 := Lib.hid (Ix0_4.out.on hb)
  have Ox0_5 := Lib.hid (Ox0_4.out.on hb)
  clear A0_4
  clear Ix0_4
  clear Ox0_4
  have hB_5 := hB_4.trans (hb.mono hB_4.size)
  have hz_5 := hb.size
  clear hB_4 hb
  go_wp2_with fail
  refine (show Calls _ _ _ _ _ from toTab_law T0 W5 A0_5.out.at hs0).mono ?_
  rintro e W6 ⟨y0, rfl, hk, -, hi, hb⟩
  have hky0 := Lib.hid hk
  clear hk
  have A0_6 := Lib.hid (A0_5.out.on hb)
  have Ix0_6 := Lib.hid (Ix0_5.out.on hb)
  have Ox0_6 := Lib.hid (Ox0_5.out.on hb)
  clear A0_5
  clear Ix0_5
  clear Ox0_5
  have hB_6 := hB_5.trans (hb.mono hB_5.size)
  have hz_6 := hb.size
  clear hB_5 hb
  have hyx0 := eqTab_law x0 y0 W6 Ix0_6.out.at hi.at (hkx0.out.trans hky0.out.symm) (Tab.Small.rows hs0 hkx0.out).1 (Tab.Small.rows hs0 hkx0.out).2.2
  clear hi
  go_wp2_with fail
  refine (show Calls _ _ _ _ _ from hyx0).mono ?_
  rintro e W7 ⟨rfl, hb⟩
  clear hyx0
  have A0_7 := Lib.hid (A0_6.out.on hb)
  have Ix0_7 := Lib.hid (Ix0_6.out.on hb)
  have Ox0_7 := Lib.hid (Ox0_6.out.on hb)
  clear A0_6
  clear Ix0_6
  clear Ox0_6
  have hB_7 := hB_6.trans (hb.mono hB_6.size)
  have hz_7 := hb.size
  clear hB_6 hb
  go_wp2_with fail
  go_ret
  exact ⟨rfl, hB_7⟩

/- The row's step. -/
set_option maxRecDepth 100000 in
set_option maxHeartbeats 4000000 in
theorem lifted (os : Os) (started : os.Started) (H : Type) (enc : TypeId × Value → H) :
    ReturnsInHanded {} Try.checked os 4 .any (Rows.fnExactIsMetricGroundSpec.pre6 enc Try.prog Try.f4 Rows.fnExactIsMetricGroundRow.domain false) (Rows.fnExactIsMetricGroundSpec.post enc Try.prog Try.f4 false true false false) := by
  refine returnsInHanded_of_change_shaped (C := Try.checked) own started (by kernel_rfl) Try.func4
    (ChangeSpec.witness6 (enc := enc) (C := Try.checked) false ⟨#[], #[.slice none 0 0], []⟩ 8 (by kernel_rfl) (by kernel_rfl) (by kernel_rfl) (by kernel_rfl)) ?_
  intro W base args ds gs before hval0 hW hcnd hsz0 hShape _
  have hval : ∀ (j : Nat) t v, Try.f4.params[j]? = some t → args[j]? = some v → Value.okWide Try.prog W .any base t v := hval0
  have hW' := hW
  obtain ⟨p, q, hA0, hV, rfl, hfz, hnd⟩ := hW
  have hA : DataW.TrodAll enc Try.prog W 0 (fun _ => true) true Try.f4.params.toList args.toList ds p := hA0
  rw [Try.params4] at hA hval
  obtain ⟨v0, vs0, d0, ds0, p0, q0, hargs, rfl, rfl, h0, more0⟩ := trodAll_cons hA
  obtain ⟨rfl, rfl, rfl⟩ := trodAll_nil more0
  obtain rfl : args = #[v0] := by cases args; simp_all
  obtain ⟨rfl, rfl⟩ := trodVars_none hV
  have k0 := h0
  have lt0 : ∀ x ∈ p0, x.block < W.heap.size := by obtain ⟨m, hm⟩ := k0; exact DataW.trod_lt m _ _ _ hm
  obtain ⟨T0, rfl, w0⟩ := open_tab (P := Try.prog) (W := W) Try.underlying22 Try.underlying29 Try.underlying3 (by kernel_rfl) (by kernel_rfl) (hval 0 22 v0 rfl rfl) h0
  clear hA0 hval0
  refine (walk W T0 w0 ).mono fun e W' ⟨he, bel⟩ => ?_
  subst he
  exact ⟨_, rfl, _, _, _, [], _, [], hW', trodAll_mk1 (shut_bool Try.underlying4 _), (trodAll_cons_mk (Below.trod laidOut (by kernel_rfl) (of_decide_eq_true (by kernel_rfl)) k0 bel lt0) trodAll_mk0), rfl, bel.frame _, fun h => by cases h⟩

theorem over : Rows.fnExactIsMetricGroundRow.holds Try.pinned (OpenSpec.ofChange Rows.fnExactIsMetricGroundSpec) :=
  OpenClaim.holds_of_wide 4 Try.f4 rfl rfl rfl rfl rfl rfl rfl ⟨rfl, rfl, rfl, rfl, rfl⟩ rfl rfl rfl rfl rfl (by kernel_rfl) Try.func4 (by kernel_rfl)
    (of_decide_eq_true (by kernel_rfl)) (by unfold Func.isWrapper; first | (rw [if_pos (by decide +kernel)]; kernel_rfl) | (rw [if_neg (by decide +kernel)]; exact ⟨rfl, rfl⟩))
    (fun os started H enc _ => lifted os started H enc)

/-- The statement. -/
theorem proved : Rows.FnExactIsMetricGroundSaid :=
  over
#print axioms proved
end Go.Proofs.Ytmbgipllkbahpaa.fnExactIsMetricGround
