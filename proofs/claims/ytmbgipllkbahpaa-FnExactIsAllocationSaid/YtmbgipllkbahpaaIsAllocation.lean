/- Proved here: called with any arguments, the law FnExactIsAllocation returns true and the arguments read afterwards as they read before: impl.IsAllocation answers as its model does, whether a list is an allocation.
   Conditions: none but the statement's own (the arguments can be read as data). -/
import Derived.Test.YtmbgipllkbahpaaRows
import Derived.WalkKit
import Derived.ProofKit
import Derived.OpenShut
import Derived.ShutString
import Derived.Below
import Derived.ChangeOld
import Derived.HandedShaped
import Derived.Test.YtmbgipllkbahpaaOpen
import Derived.Test.YtmbgipllkbahpaaPairIsAllocation
namespace Go.Proofs.Ytmbgipllkbahpaa.fnExactIsAllocation
open Go.ChangeShapes Go.WideShapes Go.ChangeAt Go.RowKit
open Go.ChangeMaps (open_string shut_string)
set_option linter.unusedVariables false

theorem own : ownKnob Try.prog.godebug = none := by kernel_rfl
theorem laidOut : laidOutB Try.prog = true := by kernel_rfl
/- The walk of the law's body. -/
set_option maxRecDepth 100000 in
set_option maxHeartbeats 1500000 in
theorem walk (W : World) (T0 : Tab) (w0 : T0.At W) (r1 : Row) (w1 : r1.At W)  :
    Calls Try.prog 7 #[T0.val, r1.val] W fun e w' => e = .returned (.bool true) ∧ Below W.heap.size W w' := by
  have hB_0 := Below.refl W.heap.size W
  have hlim1 : (r1.l.length : Int) ≤ 9223372036854775807 := by obtain ⟨q1, q2, _⟩ := w1; rw [iv_length] at q1; unfold maxLen at q2; omega
  have A1_0 := Lib.hid w1.in
  clear w1
  have A0_0 := Lib.hid w0.in
  clear w0
  by_cases hbig1 : (1048576 : Int) < r1.l.length
  · show Calls _ _ #[.slice T0.a T0.R.length T0.c, .slice r1.a r1.l.length r1.c] _ _
    go_enter Try.func7, Try.ntmps7
    go_wp2
    go_ret
    exact ⟨rfl, Below.refl _ _⟩
  have hs1 : r1.l.length ≤ 1048576 := by omega
  show Calls _ _ #[.slice T0.a T0.R.length T0.c, .slice r1.a r1.l.length r1.c] _ _
  go_enter Try.func7, Try.ntmps7
  go_wp2_with fail
  refine (show Calls _ _ _ _ _ from szTab_law T0 1048576 W A0_0.out.at (by omega) (by omega)).mono ?_
  rintro e W1 ⟨⟨left0, rfl, hl0, hm0⟩, hb⟩
  have A1_1 := Lib.hid (A1_0.out.on hb)
  have A0_1 := Lib.hid (A0_0.out.on hb)
  clear A1_0
  clear A0_0
  have hB_1 := hB_0.trans (hb.mono hB_0.size)
  have hz_1 := hb.size
  clear hB_0 hb
  by_cases hng0 : left0 < 0
  · go_wp2
    go_ret
    exact ⟨rfl, hB_1⟩
  have hs0 : T0.Small := by unfold Tab.Small; have := hl0 (by omega); omega
  have hle0 : left0 ≤ 1048576 := hm0
  obtain ⟨v, b, cs, ci⟩ := isAllocation_pair T0 r1 hs1 hs0
  have CS := Lib.hid cs
  have CI := Lib.hid ci
  clear cs ci
  go_wp2_with fail
  refine (show Calls _ _ _ _ _ from toTab_law T0 W1 A0_1.out.at hs0).mono ?_
  rintro e W2 ⟨c0, rfl, hk, ho, hi, hb⟩
  have hkc0 := Lib.hid hk
  clear hk
  have A1_2 := Lib.hid (A1_1.out.on hb)
  have A0_2 := Lib.hid (A0_1.out.on hb)
  clear A1_1
  clear A0_1
  have hB_2 := hB_1.trans (hb.mono hB_1.size)
  have hz_2 := hb.size
  clear hB_1 hb
  have Ic0_2 := Lib.hid hi
  have Oc0_2 := Lib.hid ho
  clear hi ho
  go_wp2_with fail
  refine (show Calls _ _ _ _ _ from toInts_row r1 W2 A1_2.out.at hs1).mono ?_
  rintro e W3 ⟨c1, rfl, hk, -, ho, hi, hb⟩
  have hkc1 := Lib.hid hk
  clear hk
  have A1_3 := Lib.hid (A1_2.out.on hb)
  have A0_3 := Lib.hid (A0_2.out.on hb)
  have Ic0_3 := Lib.hid (Ic0_2.out.on hb)
  have Oc0_3 := Lib.hid (Oc0_2.out.on hb)
  clear A1_2
  clear A0_2
  clear Ic0_2
  clear Oc0_2
  have hB_3 := hB_2.trans (hb.mono hB_2.size)
  have hz_3 := hb.size
  clear hB_2 hb
  have Ic1_3 := Lib.hid hi
  have Oc1_3 := Lib.hid ho
  clear hi ho
  go_wp2_with fail
  refine (show Calls _ _ _ _ _ from CS.out c1 c0 W3 Ic1_3.out.at Ic0_3.out.at hkc1.out hkc0.out).mono ?_
  rintro e W4 ⟨rfl, hb⟩
  have A1_4 := Lib.hid (A1_3.out.on hb)
  have A0_4 := Lib.hid (A0_3.out.on hb)
  have Ic0_4 := Lib.hid (Ic0_3.out.on hb)
  have Oc0_4 := Lib.hid (Oc0_3.out.on hb)
  have Ic1_4 := Lib.hid (Ic1_3.out.on hb)
  have Oc1_4 := Lib.hid (Oc1_3.out.on hb)
  clear A1_3
  clear A0_3
  clear Ic0_3
  clear Oc0_3
  clear Ic1_3
  clear Oc1_3
  have hB_4 := hB_3.trans (hb.mono hB_3.size)
  have hz_4 := hb.size
  clear hB_3 hb
  clear Oc1_4
  clear Ic1_4
  clear Oc0_4
  clear Ic0_4
  go_wp2_with fail
  refine (show Calls _ _ _ _ _ from toTab_law T0 W4 A0_4.out.at hs0).mono ?_
  rintro e W5 ⟨x0, rfl, hk, ho, hi, hb⟩
  have hkx0 := Lib.hid hk
  clear hk
  have A1_5 := Lib.hid (A1_4.out.on hb)
  have A0_5 := Lib.hid (A0_4.out.on hb)
  clear A1_4
  clear A0_4
  have hB_5 := hB_4.trans (hb.mono hB_4.size)
  have hz_5 := hb.size
  clear hB_4 hb
  have Ix0_5 := Lib.hid hi
  have Ox0_5 := Lib.hid ho
  clear hi ho
  go_wp2_with fail
  refine (show Calls _ _ _ _ _ from toInts_row r1 W5 A1_5.out.at hs1).mono ?_
  rintro e W6 ⟨x1, rfl, hk, -, ho, hi, hb⟩
  have hkx1 := Lib.hid hk
  clear hk
  have A1_6 := Lib.hid (A1_5.out.on hb)
  have A0_6 := Lib.hid (A0_5.out.on hb)
  have Ix0_6 := Lib.hid (Ix0_5.out.on hb)
  have Ox0_6 := Lib.hid (Ox0_5.out.on hb)
  clear A1_5
  clear A0_5
  clear Ix0_5
  clear Ox0_5
  have hB_6 := hB_5.trans (hb.mono hB_5.size)
  have hz_6 := hb.size
  clear hB_5 hb
  have Ix1_6 := Lib.hid hi
  have Ox1_6 := Lib.hid ho
  clear hi ho
  go_wp2_with fail
  refine (show Calls _ _ _ _ _ from CI.out x1 x0 W6 Ix1_6.out.at Ix0_6.out.at hkx1.out hkx0.out).mono ?_
  rintro e W7 ⟨rfl, hb⟩
  have A1_7 := Lib.hid (A1_6.out.on hb)
  have A0_7 := Lib.hid (A0_6.out.on hb)
  have Ix0_7 := Lib.hid (Ix0_6.out.on hb)
  have Ox0_7 := Lib.hid (Ox0_6.out.on hb)
  have Ix1_7 := Lib.hid (Ix1_6.out.on hb)
  have Ox1_7 := Lib.hid (Ox1_6.out.on hb)
  clear A1_6
  clear A0_6
  clear Ix0_6
  clear Ox0_6
  clear Ix1_6
  clear Ox1_6
  have hB_7 := hB_6.trans (hb.mono hB_6.size)
  have hz_7 := hb.size
  clear hB_6 hb
  go_wp2_with fail
  refine (show Calls _ _ _ _ _ from toTab_law T0 W7 A0_7.out.at hs0).mono ?_
  rintro e W8 ⟨y0, rfl, hk, -, hi, hb⟩
  have hky0 := Lib.hid hk
  clear hk
  have A1_8 := Lib.hid (A1_7.out.on hb)
  have A0_8 := Lib.hid (A0_7.out.on hb)
  have Ix0_8 := Lib.hid (Ix0_7.out.on hb)
  have Ox0_8 := Lib.hid (Ox0_7.out.on hb)
  have Ix1_8 := Lib.hid (Ix1_7.out.on hb)
  have Ox1_8 := Lib.hid (Ox1_7.out.on hb)
  clear A1_7
  clear A0_7
  clear Ix0_7
  clear Ox0_7
  clear Ix1_7
  clear Ox1_7
  have hB_8 := hB_7.trans (hb.mono hB_7.size)
  have hz_8 := hb.size
  clear hB_7 hb
  have hyx0 := eqTab_law x0 y0 W8 Ix0_8.out.at hi.at (hkx0.out.trans hky0.out.symm) (Tab.Small.rows hs0 hkx0.out).1 (Tab.Small.rows hs0 hkx0.out).2.2
  clear hi
  go_wp2_with fail
  refine (show Calls _ _ _ _ _ from hyx0).mono ?_
  rintro e W9 ⟨rfl, hb⟩
  clear hyx0
  have A1_9 := Lib.hid (A1_8.out.on hb)
  have A0_9 := Lib.hid (A0_8.out.on hb)
  have Ix0_9 := Lib.hid (Ix0_8.out.on hb)
  have Ox0_9 := Lib.hid (Ox0_8.out.on hb)
  have Ix1_9 := Lib.hid (Ix1_8.out.on hb)
  have Ox1_9 := Lib.hid (Ox1_8.out.on hb)
  clear A1_8
  clear A0_8
  clear Ix0_8
  clear Ox0_8
  clear Ix1_8
  clear Ox1_8
  have hB_9 := hB_8.trans (hb.mono hB_8.size)
  have hz_9 := hb.size
  clear hB_8 hb
  go_wp2_with fail
  refine (show Calls _ _ _ _ _ from toInts_row r1 W9 A1_9.out.at hs1).mono ?_
  rintro e W10 ⟨y1, rfl, hk, -, -, hi, hb⟩
  have hky1 := Lib.hid hk
  clear hk
  have A1_10 := Lib.hid (A1_9.out.on hb)
  have A0_10 := Lib.hid (A0_9.out.on hb)
  have Ix0_10 := Lib.hid (Ix0_9.out.on hb)
  have Ox0_10 := Lib.hid (Ox0_9.out.on hb)
  have Ix1_10 := Lib.hid (Ix1_9.out.on hb)
  have Ox1_10 := Lib.hid (Ox1_9.out.on hb)
  clear A1_9
  clear A0_9
  clear Ix0_9
  clear Ox0_9
  clear Ix1_9
  clear Ox1_9
  have hB_10 := hB_9.trans (hb.mono hB_9.size)
  have hz_10 := hb.size
  clear hB_9 hb
  have hyx1 := eqRow_law x1 y1 W10 Ix1_10.out.at hi.at (hkx1.out.trans hky1.out.symm) (by rw [hkx1.out]; exact hs1)
  clear hi
  go_wp2_with fail
  refine (show Calls _ _ _ _ _ from hyx1).mono ?_
  rintro e W11 ⟨rfl, hb⟩
  clear hyx1
  have A1_11 := Lib.hid (A1_10.out.on hb)
  have A0_11 := Lib.hid (A0_10.out.on hb)
  have Ix0_11 := Lib.hid (Ix0_10.out.on hb)
  have Ox0_11 := Lib.hid (Ox0_10.out.on hb)
  have Ix1_11 := Lib.hid (Ix1_10.out.on hb)
  have Ox1_11 := Lib.hid (Ox1_10.out.on hb)
  clear A1_10
  clear A0_10
  clear Ix0_10
  clear Ox0_10
  clear Ix1_10
  clear Ox1_10
  have hB_11 := hB_10.trans (hb.mono hB_10.size)
  have hz_11 := hb.size
  clear hB_10 hb
  go_wp2_with fail
  go_ret
  exact ⟨rfl, hB_11⟩

/- The row's step. -/
set_option maxRecDepth 100000 in
set_option maxHeartbeats 4000000 in
theorem lifted (os : Os) (started : os.Started) (H : Type) (enc : TypeId × Value → H) :
    ReturnsInHanded {} Try.checked os 7 .any (Rows.fnExactIsAllocationSpec.pre6 enc Try.prog Try.f7 Rows.fnExactIsAllocationRow.domain false) (Rows.fnExactIsAllocationSpec.post enc Try.prog Try.f7 false true false false) := by
  refine returnsInHanded_of_change_shaped (C := Try.checked) own started (by kernel_rfl) Try.func7
    (ChangeSpec.witness6 (enc := enc) (C := Try.checked) false ⟨#[], #[.slice none 0 0, .slice none 0 0], []⟩ 8 (by kernel_rfl) (by kernel_rfl) (by kernel_rfl) (by kernel_rfl)) ?_
  intro W base args ds gs before hval0 hW hcnd hsz0 hShape _
  have hval : ∀ (j : Nat) t v, Try.f7.params[j]? = some t → args[j]? = some v → Value.okWide Try.prog W .any base t v := hval0
  have hW' := hW
  obtain ⟨p, q, hA0, hV, rfl, hfz, hnd⟩ := hW
  have hA : DataW.TrodAll enc Try.prog W 0 (fun _ => true) true Try.f7.params.toList args.toList ds p := hA0
  rw [Try.params7] at hA hval
  obtain ⟨v0, vs0, d0, ds0, p0, q0, hargs, rfl, rfl, h0, more0⟩ := trodAll_cons hA
  obtain ⟨v1, vs1, d1, ds1, p1, q1, rfl, rfl, rfl, h1, more1⟩ := trodAll_cons more0
  obtain ⟨rfl, rfl, rfl⟩ := trodAll_nil more1
  obtain rfl : args = #[v0, v1] := by cases args; simp_all
  obtain ⟨rfl, rfl⟩ := trodVars_none hV
  have k0 := h0
  have lt0 : ∀ x ∈ p0, x.block < W.heap.size := by obtain ⟨m, hm⟩ := k0; exact DataW.trod_lt m _ _ _ hm
  obtain ⟨T0, rfl, w0⟩ := open_tab (P := Try.prog) (W := W) Try.underlying22 Try.underlying29 Try.underlying3 (by kernel_rfl) (by kernel_rfl) (hval 0 22 v0 rfl rfl) h0
  have k1 := h1
  have lt1 : ∀ x ∈ p1, x.block < W.heap.size := by obtain ⟨m, hm⟩ := k1; exact DataW.trod_lt m _ _ _ hm
  obtain ⟨r1, rfl, w1⟩ := open_row (P := Try.prog) (W := W) Try.underlying29 Try.underlying3 (by kernel_rfl) (hval 1 29 v1 rfl rfl) h1
  clear hA0 hval0
  refine (walk W T0 w0 r1 w1 ).mono fun e W' ⟨he, bel⟩ => ?_
  subst he
  exact ⟨_, rfl, _, _, _, [], _, [], hW', trodAll_mk1 (shut_bool Try.underlying4 _), (trodAll_cons_mk (Below.trod laidOut (by kernel_rfl) (of_decide_eq_true (by kernel_rfl)) k0 bel lt0) (trodAll_cons_mk (Below.trod laidOut (by kernel_rfl) (of_decide_eq_true (by kernel_rfl)) k1 bel lt1) trodAll_mk0)), rfl, bel.frame _, fun h => by cases h⟩

theorem over : Rows.fnExactIsAllocationRow.holds Try.pinned (OpenSpec.ofChange Rows.fnExactIsAllocationSpec) :=
  OpenClaim.holds_of_wide 7 Try.f7 rfl rfl rfl rfl rfl rfl rfl ⟨rfl, rfl, rfl, rfl, rfl⟩ rfl rfl rfl rfl rfl (by kernel_rfl) Try.func7 (by kernel_rfl)
    (of_decide_eq_true (by kernel_rfl)) (by unfold Func.isWrapper; first | (rw [if_pos (by decide +kernel)]; kernel_rfl) | (rw [if_neg (by decide +kernel)]; exact ⟨rfl, rfl⟩))
    (fun os started H enc _ => lifted os started H enc)

/-- The statement. -/
theorem proved : Rows.FnExactIsAllocationSaid :=
  over
#print axioms proved
end Go.Proofs.Ytmbgipllkbahpaa.fnExactIsAllocation
