/- Proved here: called with any arguments, the law FnExactHubCost returns true and the arguments read afterwards as they read before: impl.HubCost answers as its model does, the cost of an allocation.
   Conditions: none but the statement's own (the arguments can be read as data). -/
import Derived.Test.YtmbgipllkbahpaaRows
import Derived.WalkKit
import Derived.ProofKit
import Derived.OpenShut
import Derived.ShutString
import Derived.Below
import Derived.ChangeOld
import Derived.HandedShaped
import Derived.Test.YtmbgipllkbahpaaOpen
import Derived.Test.YtmbgipllkbahpaaPairHubCost
namespace Go.Proofs.Ytmbgipllkbahpaa.fnExactHubCost
open Go.ChangeShapes Go.WideShapes Go.ChangeAt Go.RowKit
open Go.ChangeMaps (open_string shut_string)
set_option linter.unusedVariables false

theorem own : ownKnob Try.prog.godebug = none := by kernel_rfl
theorem laidOut : laidOutB Try.prog = true := by kernel_rfl
/- The walk of the law's body. -/
set_option maxRecDepth 100000 in
set_option maxHeartbeats 1500000 in
theorem walk (W : World) (T0 : Tab) (w0 : T0.At W) (T1 : Tab) (w1 : T1.At W) (r2 : Row) (w2 : r2.At W) (a3 : Int) (w3 : (Lit.int .i64 a3).wf = true)  :
    Calls Try.prog 8 #[T0.val, T1.val, r2.val, .int .i64 a3] W fun e w' => e = .returned (.bool true) ∧ Below W.heap.size W w' := by
  have hB_0 := Below.refl W.heap.size W
  have hlim2 : (r2.l.length : Int) ≤ 9223372036854775807 := by obtain ⟨q1, q2, _⟩ := w2; rw [iv_length] at q1; unfold maxLen at q2; omega
  have A2_0 := Lib.hid w2.in
  clear w2
  have A0_0 := Lib.hid w0.in
  clear w0
  have A1_0 := Lib.hid w1.in
  clear w1
  by_cases hbig2 : (1048576 : Int) < r2.l.length
  · show Calls _ _ #[.slice T0.a T0.R.length T0.c, .slice T1.a T1.R.length T1.c, .slice r2.a r2.l.length r2.c, .int .i64 a3] _ _
    go_enter Try.func8, Try.ntmps8
    go_wp2
    go_ret
    exact ⟨rfl, Below.refl _ _⟩
  have hs2 : r2.l.length ≤ 1048576 := by omega
  show Calls _ _ #[.slice T0.a T0.R.length T0.c, .slice T1.a T1.R.length T1.c, .slice r2.a r2.l.length r2.c, .int .i64 a3] _ _
  go_enter Try.func8, Try.ntmps8
  go_wp2_with fail
  refine (show Calls _ _ _ _ _ from szTab_law T0 1048576 W A0_0.out.at (by omega) (by omega)).mono ?_
  rintro e W1 ⟨⟨left0, rfl, hl0, hm0⟩, hb⟩
  have A2_1 := Lib.hid (A2_0.out.on hb)
  have A0_1 := Lib.hid (A0_0.out.on hb)
  have A1_1 := Lib.hid (A1_0.out.on hb)
  clear A2_0
  clear A0_0
  clear A1_0
  have hB_1 := hB_0.trans (hb.mono hB_0.size)
  have hz_1 := hb.size
  clear hB_0 hb
  by_cases hng0 : left0 < 0
  · go_wp2
    go_ret
    exact ⟨rfl, hB_1⟩
  have hs0 : T0.Small := by unfold Tab.Small; have := hl0 (by omega); omega
  have hle0 : left0 ≤ 1048576 := hm0
  go_wp2_with fail
  refine (show Calls _ _ _ _ _ from szTab_law T1 left0 W1 A1_1.out.at (by omega) (by omega)).mono ?_
  rintro e W2 ⟨⟨left1, rfl, hl1, hm1⟩, hb⟩
  have A2_2 := Lib.hid (A2_1.out.on hb)
  have A0_2 := Lib.hid (A0_1.out.on hb)
  have A1_2 := Lib.hid (A1_1.out.on hb)
  clear A2_1
  clear A0_1
  clear A1_1
  have hB_2 := hB_1.trans (hb.mono hB_1.size)
  have hz_2 := hb.size
  clear hB_1 hb
  by_cases hng1 : left1 < 0
  · go_wp2
    go_ret
    exact ⟨rfl, hB_2⟩
  have hs1 : T1.Small := by unfold Tab.Small; have := hl1 (by omega); omega
  have hle1 : left1 ≤ 1048576 := hm1
  obtain ⟨v, b, cs, ci⟩ := hubCost_pair T0 T1 r2 a3 w3 hs2 hs0 hs1
  have CS := Lib.hid cs
  have CI := Lib.hid ci
  clear cs ci
  go_wp2_with fail
  refine (show Calls _ _ _ _ _ from toTab_law T0 W2 A0_2.out.at hs0).mono ?_
  rintro e W3 ⟨c0, rfl, hk, ho, hi, hb⟩
  have hkc0 := Lib.hid hk
  clear hk
  have A2_3 := Lib.hid (A2_2.out.on hb)
  have A0_3 := Lib.hid (A0_2.out.on hb)
  have A1_3 := Lib.hid (A1_2.out.on hb)
  clear A2_2
  clear A0_2
  clear A1_2
  have hB_3 := hB_2.trans (hb.mono hB_2.size)
  have hz_3 := hb.size
  clear hB_2 hb
  have Ic0_3 := Lib.hid hi
  have Oc0_3 := Lib.hid ho
  clear hi ho
  go_wp2_with fail
  refine (show Calls _ _ _ _ _ from toTab_law T1 W3 A1_3.out.at hs1).mono ?_
  rintro e W4 ⟨c1, rfl, hk, ho, hi, hb⟩
  have hkc1 := Lib.hid hk
  clear hk
  have A2_4 := Lib.hid (A2_3.out.on hb)
  have A0_4 := Lib.hid (A0_3.out.on hb)
  have A1_4 := Lib.hid (A1_3.out.on hb)
  have Ic0_4 := Lib.hid (Ic0_3.out.on hb)
  have Oc0_4 := Lib.hid (Oc0_3.out.on hb)
  clear A2_3
  clear A0_3
  clear A1_3
  clear Ic0_3
  clear Oc0_3
  have hB_4 := hB_3.trans (hb.mono hB_3.size)
  have hz_4 := hb.size
  clear hB_3 hb
  have Ic1_4 := Lib.hid hi
  have Oc1_4 := Lib.hid ho
  clear hi ho
  go_wp2_with fail
  refine (show Calls _ _ _ _ _ from toInts_row r2 W4 A2_4.out.at hs2).mono ?_
  rintro e W5 ⟨c2, rfl, hk, -, ho, hi, hb⟩
  have hkc2 := Lib.hid hk
  clear hk
  have A2_5 := Lib.hid (A2_4.out.on hb)
  have A0_5 := Lib.hid (A0_4.out.on hb)
  have A1_5 := Lib.hid (A1_4.out.on hb)
  have Ic0_5 := Lib.hid (Ic0_4.out.on hb)
  have Oc0_5 := Lib.hid (Oc0_4.out.on hb)
  have Ic1_5 := Lib.hid (Ic1_4.out.on hb)
  have Oc1_5 := Lib.hid (Oc1_4.out.on hb)
  clear A2_4
  clear A0_4
  clear A1_4
  clear Ic0_4
  clear Oc0_4
  clear Ic1_4
  clear Oc1_4
  have hB_5 := hB_4.trans (hb.mono hB_4.size)
  have hz_5 := hb.size
  clear hB_4 hb
  have Ic2_5 := Lib.hid hi
  have Oc2_5 := Lib.hid ho
  clear hi ho
  go_wp2_with fail
  refine (show Calls _ _ _ _ _ from CS.out c2 c0 c1 W5 Ic2_5.out.at Ic0_5.out.at Ic1_5.out.at hkc2.out hkc0.out hkc1.out).mono ?_
  rintro e W6 ⟨rfl, hb⟩
  have A2_6 := Lib.hid (A2_5.out.on hb)
  have A0_6 := Lib.hid (A0_5.out.on hb)
  have A1_6 := Lib.hid (A1_5.out.on hb)
  have Ic0_6 := Lib.hid (Ic0_5.out.on hb)
  have Oc0_6 := Lib.hid (Oc0_5.out.on hb)
  have Ic1_6 := Lib.hid (Ic1_5.out.on hb)
  have Oc1_6 := Lib.hid (Oc1_5.out.on hb)
  have Ic2_6 := Lib.hid (Ic2_5.out.on hb)
  have Oc2_6 := Lib.hid (Oc2_5.out.on hb)
  clear A2_5
  clear A0_5
  clear A1_5
  clear Ic0_5
  clear Oc0_5
  clear Ic1_5
  clear Oc1_5
  clear Ic2_5
  clear Oc2_5
  have hB_6 := hB_5.trans (hb.mono hB_5.size)
  have hz_6 := hb.size
  clear hB_5 hb
  clear Oc2_6
  clear Ic2_6
  clear Oc0_6
  clear Ic0_6
  clear Oc1_6
  clear Ic1_6
  go_wp2_with fail
  refine (show Calls _ _ _ _ _ from toTab_law T0 W6 A0_6.out.at hs0).mono ?_
  rintro e W7 ⟨x0, rfl, hk, ho, hi, hb⟩
  have hkx0 := Lib.hid hk
  clear hk
  have A2_7 := Lib.hid (A2_6.out.on hb)
  have A0_7 := Lib.hid (A0_6.out.on hb)
  have A1_7 := Lib.hid (A1_6.out.on hb)
  clear A2_6
  clear A0_6
  clear A1_6
  have hB_7 := hB_6.trans (hb.mono hB_6.size)
  have hz_7 := hb.size
  clear hB_6 hb
  have Ix0_7 := Lib.hid hi
  have Ox0_7 := Lib.hid ho
  clear hi ho
  go_wp2_with fail
  refine (show Calls _ _ _ _ _ from toTab_law T1 W7 A1_7.out.at hs1).mono ?_
  rintro e W8 ⟨x1, rfl, hk, ho, hi, hb⟩
  have hkx1 := Lib.hid hk
  clear hk
  have A2_8 := Lib.hid (A2_7.out.on hb)
  have A0_8 := Lib.hid (A0_7.out.on hb)
  have A1_8 := Lib.hid (A1_7.out.on hb)
  have Ix0_8 := Lib.hid (Ix0_7.out.on hb)
  have Ox0_8 := Lib.hid (Ox0_7.out.on hb)
  clear A2_7
  clear A0_7
  clear A1_7
  clear Ix0_7
  clear Ox0_7
  have hB_8 := hB_7.trans (hb.mono hB_7.size)
  have hz_8 := hb.size
  clear hB_7 hb
  have Ix1_8 := Lib.hid hi
  have Ox1_8 := Lib.hid ho
  clear hi ho
  go_wp2_with fail
  refine (show Calls _ _ _ _ _ from toInts_row r2 W8 A2_8.out.at hs2).mono ?_
  rintro e W9 ⟨x2, rfl, hk, -, ho, hi, hb⟩
  have hkx2 := Lib.hid hk
  clear hk
  have A2_9 := Lib.hid (A2_8.out.on hb)
  have A0_9 := Lib.hid (A0_8.out.on hb)
  have A1_9 := Lib.hid (A1_8.out.on hb)
  have Ix0_9 := Lib.hid (Ix0_8.out.on hb)
  have Ox0_9 := Lib.hid (Ox0_8.out.on hb)
  have Ix1_9 := Lib.hid (Ix1_8.out.on hb)
  have Ox1_9 := Lib.hid (Ox1_8.out.on hb)
  clear A2_8
  clear A0_8
  clear A1_8
  clear Ix0_8
  clear Ox0_8
  clear Ix1_8
  clear Ox1_8
  have hB_9 := hB_8.trans (hb.mono hB_8.size)
  have hz_9 := hb.size
  clear hB_8 hb
  have Ix2_9 := Lib.hid hi
  have Ox2_9 := Lib.hid ho
  clear hi ho
  go_wp2_with fail
  refine (show Calls _ _ _ _ _ from CI.out x2 x0 x1 W9 Ix2_9.out.at Ix0_9.out.at Ix1_9.out.at hkx2.out hkx0.out hkx1.out).mono ?_
  rintro e W10 ⟨rfl, hb⟩
  have A2_10 := Lib.hid (A2_9.out.on hb)
  have A0_10 := Lib.hid (A0_9.out.on hb)
  have A1_10 := Lib.hid (A1_9.out.on hb)
  have Ix0_10 := Lib.hid (Ix0_9.out.on hb)
  have Ox0_10 := Lib.hid (Ox0_9.out.on hb)
  have Ix1_10 := Lib.hid (Ix1_9.out.on hb)
  have Ox1_10 := Lib.hid (Ox1_9.out.on hb)
  have Ix2_10 := Lib.hid (Ix2_9.out.on hb)
  have Ox2_10 := Lib.hid (Ox2_9.out.on hb)
  clear A2_9
  clear A0_9
  clear A1_9
  clear Ix0_9
  clear Ox0_9
  clear Ix1_9
  clear Ox1_9
  clear Ix2_9
  clear Ox2_9
  have hB_10 := hB_9.trans (hb.mono hB_9.size)
  have hz_10 := hb.size
  clear hB_9 hb
  go_wp2_with fail
  refine (show Calls _ _ _ _ _ from toTab_law T0 W10 A0_10.out.at hs0).mono ?_
  rintro e W11 ⟨y0, rfl, hk, -, hi, hb⟩
  have hky0 := Lib.hid hk
  clear hk
  have A2_11 := Lib.hid (A2_10.out.on hb)
  have A0_11 := Lib.hid (A0_10.out.on hb)
  have A1_11 := Lib.hid (A1_10.out.on hb)
  have Ix0_11 := Lib.hid (Ix0_10.out.on hb)
  have Ox0_11 := Lib.hid (Ox0_10.out.on hb)
  have Ix1_11 := Lib.hid (Ix1_10.out.on hb)
  have Ox1_11 := Lib.hid (Ox1_10.out.on hb)
  have Ix2_11 := Lib.hid (Ix2_10.out.on hb)
  have Ox2_11 := Lib.hid (Ox2_10.out.on hb)
  clear A2_10
  clear A0_10
  clear A1_10
  clear Ix0_10
  clear Ox0_10
  clear Ix1_10
  clear Ox1_10
  clear Ix2_10
  clear Ox2_10
  have hB_11 := hB_10.trans (hb.mono hB_10.size)
  have hz_11 := hb.size
  clear hB_10 hb
  have hyx0 := eqTab_law x0 y0 W11 Ix0_11.out.at hi.at (hkx0.out.trans hky0.out.symm) (Tab.Small.rows hs0 hkx0.out).1 (Tab.Small.rows hs0 hkx0.out).2.2
  clear hi
  go_wp2_with fail
  refine (show Calls _ _ _ _ _ from hyx0).mono ?_
  rintro e W12 ⟨rfl, hb⟩
  clear hyx0
  have A2_12 := Lib.hid (A2_11.out.on hb)
  have A0_12 := Lib.hid (A0_11.out.on hb)
  have A1_12 := Lib.hid (A1_11.out.on hb)
  have Ix0_12 := Lib.hid (Ix0_11.out.on hb)
  have Ox0_12 := Lib.hid (Ox0_11.out.on hb)
  have Ix1_12 := Lib.hid (Ix1_11.out.on hb)
  have Ox1_12 := Lib.hid (Ox1_11.out.on hb)
  have Ix2_12 := Lib.hid (Ix2_11.out.on hb)
  have Ox2_12 := Lib.hid (Ox2_11.out.on hb)
  clear A2_11
  clear A0_11
  clear A1_11
  clear Ix0_11
  clear Ox0_11
  clear Ix1_11
  clear Ox1_11
  clear Ix2_11
  clear Ox2_11
  have hB_12 := hB_11.trans (hb.mono hB_11.size)
  have hz_12 := hb.size
  clear hB_11 hb
  go_wp2_with fail
  refine (show Calls _ _ _ _ _ from toTab_law T1 W12 A1_12.out.at hs1).mono ?_
  rintro e W13 ⟨y1, rfl, hk, -, hi, hb⟩
  have hky1 := Lib.hid hk
  clear hk
  have A2_13 := Lib.hid (A2_12.out.on hb)
  have A0_13 := Lib.hid (A0_12.out.on hb)
  have A1_13 := Lib.hid (A1_12.out.on hb)
  have Ix0_13 := Lib.hid (Ix0_12.out.on hb)
  have Ox0_13 := Lib.hid (Ox0_12.out.on hb)
  have Ix1_13 := Lib.hid (Ix1_12.out.on hb)
  have Ox1_13 := Lib.hid (Ox1_12.out.on hb)
  have Ix2_13 := Lib.hid (Ix2_12.out.on hb)
  have Ox2_13 := Lib.hid (Ox2_12.out.on hb)
  clear A2_12
  clear A0_12
  clear A1_12
  clear Ix0_12
  clear Ox0_12
  clear Ix1_12
  clear Ox1_12
  clear Ix2_12
  clear Ox2_12
  have hB_13 := hB_12.trans (hb.mono hB_12.size)
  have hz_13 := hb.size
  clear hB_12 hb
  have hyx1 := eqTab_law x1 y1 W13 Ix1_13.out.at hi.at (hkx1.out.trans hky1.out.symm) (Tab.Small.rows hs1 hkx1.out).1 (Tab.Small.rows hs1 hkx1.out).2.2
  clear hi
  go_wp2_with fail
  refine (show Calls _ _ _ _ _ from hyx1).mono ?_
  rintro e W14 ⟨rfl, hb⟩
  clear hyx1
  have A2_14 := Lib.hid (A2_13.out.on hb)
  have A0_14 := Lib.hid (A0_13.out.on hb)
  have A1_14 := Lib.hid (A1_13.out.on hb)
  have Ix0_14 := Lib.hid (Ix0_13.out.on hb)
  have Ox0_14 := Lib.hid (Ox0_13.out.on hb)
  have Ix1_14 := Lib.hid (Ix1_13.out.on hb)
  have Ox1_14 := Lib.hid (Ox1_13.out.on hb)
  have Ix2_14 := Lib.hid (Ix2_13.out.on hb)
  have Ox2_14 := Lib.hid (Ox2_13.out.on hb)
  clear A2_13
  clear A0_13
  clear A1_13
  clear Ix0_13
  clear Ox0_13
  clear Ix1_13
  clear Ox1_13
  clear Ix2_13
  clear Ox2_13
  have hB_14 := hB_13.trans (hb.mono hB_13.size)
  have hz_14 := hb.size
  clear hB_13 hb
  go_wp2_with fail
  refine (show Calls _ _ _ _ _ from toInts_row r2 W14 A2_14.out.at hs2).mono ?_
  rintro e W15 ⟨y2, rfl, hk, -, -, hi, hb⟩
  have hky2 := Lib.hid hk
  clear hk
  have A2_15 := Lib.hid (A2_14.out.on hb)
  have A0_15 := Lib.hid (A0_14.out.on hb)
  have A1_15 := Lib.hid (A1_14.out.on hb)
  have Ix0_15 := Lib.hid (Ix0_14.out.on hb)
  have Ox0_15 := Lib.hid (Ox0_14.out.on hb)
  have Ix1_15 := Lib.hid (Ix1_14.out.on hb)
  have Ox1_15 := Lib.hid (Ox1_14.out.on hb)
  have Ix2_15 := Lib.hid (Ix2_14.out.on hb)
  have Ox2_15 := Lib.hid (Ox2_14.out.on hb)
  clear A2_14
  clear A0_14
  clear A1_14
  clear Ix0_14
  clear Ox0_14
  clear Ix1_14
  clear Ox1_14
  clear Ix2_14
  clear Ox2_14
  have hB_15 := hB_14.trans (hb.mono hB_14.size)
  have hz_15 := hb.size
  clear hB_14 hb
  have hyx2 := eqRow_law x2 y2 W15 Ix2_15.out.at hi.at (hkx2.out.trans hky2.out.symm) (by rw [hkx2.out]; exact hs2)
  clear hi
  go_wp2_with fail
  refine (show Calls _ _ _ _ _ from hyx2).mono ?_
  rintro e W16 ⟨rfl, hb⟩
  clear hyx2
  have A2_16 := Lib.hid (A2_15.out.on hb)
  have A0_16 := Lib.hid (A0_15.out.on hb)
  have A1_16 := Lib.hid (A1_15.out.on hb)
  have Ix0_16 := Lib.hid (Ix0_15.out.on hb)
  have Ox0_16 := Lib.hid (Ox0_15.out.on hb)
  have Ix1_16 := Lib.hid (Ix1_15.out.on hb)
  have Ox1_16 := Lib.hid (Ox1_15.out.on hb)
  have Ix2_16 := Lib.hid (Ix2_15.out.on hb)
  have Ox2_16 := Lib.hid (Ox2_15.out.on hb)
  clear A2_15
  clear A0_15
  clear A1_15
  clear Ix0_15
  clear Ox0_15
  clear Ix1_15
  clear Ox1_15
  clear Ix2_15
  clear Ox2_15
  have hB_16 := hB_15.trans (hb.mono hB_15.size)
  have hz_16 := hb.size
  clear hB_15 hb
  go_wp2_with fail
  go_ret
  exact ⟨rfl, hB_16⟩

/- The row's step. -/
set_option maxRecDepth 100000 in
set_option maxHeartbeats 4000000 in
theorem lifted (os : Os) (started : os.Started) (H : Type) (enc : TypeId × Value → H) :
    ReturnsInHanded {} Try.checked os 8 .any (Rows.fnExactHubCostSpec.pre6 enc Try.prog Try.f8 Rows.fnExactHubCostRow.domain false) (Rows.fnExactHubCostSpec.post enc Try.prog Try.f8 false true false false) := by
  refine returnsInHanded_of_change_shaped (C := Try.checked) own started (by kernel_rfl) Try.func8
    (ChangeSpec.witness6 (enc := enc) (C := Try.checked) false ⟨#[], #[.slice none 0 0, .slice none 0 0, .slice none 0 0, .int .i64 0], []⟩ 8 (by kernel_rfl) (by kernel_rfl) (by kernel_rfl) (by kernel_rfl)) ?_
  intro W base args ds gs before hval0 hW hcnd hsz0 hShape _
  have hval : ∀ (j : Nat) t v, Try.f8.params[j]? = some t → args[j]? = some v → Value.okWide Try.prog W .any base t v := hval0
  have hW' := hW
  obtain ⟨p, q, hA0, hV, rfl, hfz, hnd⟩ := hW
  have hA : DataW.TrodAll enc Try.prog W 0 (fun _ => true) true Try.f8.params.toList args.toList ds p := hA0
  rw [Try.params8] at hA hval
  obtain ⟨v0, vs0, d0, ds0, p0, q0, hargs, rfl, rfl, h0, more0⟩ := trodAll_cons hA
  obtain ⟨v1, vs1, d1, ds1, p1, q1, rfl, rfl, rfl, h1, more1⟩ := trodAll_cons more0
  obtain ⟨v2, vs2, d2, ds2, p2, q2, rfl, rfl, rfl, h2, more2⟩ := trodAll_cons more1
  obtain ⟨v3, vs3, d3, ds3, p3, q3, rfl, rfl, rfl, h3, more3⟩ := trodAll_cons more2
  obtain ⟨rfl, rfl, rfl⟩ := trodAll_nil more3
  obtain rfl : args = #[v0, v1, v2, v3] := by cases args; simp_all
  obtain ⟨rfl, rfl⟩ := trodVars_none hV
  have k0 := h0
  have lt0 : ∀ x ∈ p0, x.block < W.heap.size := by obtain ⟨m, hm⟩ := k0; exact DataW.trod_lt m _ _ _ hm
  obtain ⟨T0, rfl, w0⟩ := open_tab (P := Try.prog) (W := W) Try.underlying22 Try.underlying29 Try.underlying3 (by kernel_rfl) (by kernel_rfl) (hval 0 22 v0 rfl rfl) h0
  have k1 := h1
  have lt1 : ∀ x ∈ p1, x.block < W.heap.size := by obtain ⟨m, hm⟩ := k1; exact DataW.trod_lt m _ _ _ hm
  obtain ⟨T1, rfl, w1⟩ := open_tab (P := Try.prog) (W := W) Try.underlying22 Try.underlying29 Try.underlying3 (by kernel_rfl) (by kernel_rfl) (hval 1 22 v1 rfl rfl) h1
  have k2 := h2
  have lt2 : ∀ x ∈ p2, x.block < W.heap.size := by obtain ⟨m, hm⟩ := k2; exact DataW.trod_lt m _ _ _ hm
  obtain ⟨r2, rfl, w2⟩ := open_row (P := Try.prog) (W := W) Try.underlying29 Try.underlying3 (by kernel_rfl) (hval 2 29 v2 rfl rfl) h2
  obtain ⟨a3, rfl, rfl, rfl, w3⟩ := open_int Try.underlying3 (hval 3 3 v3 rfl rfl) h3
  clear hA0 hval0
  refine (walk W T0 w0 T1 w1 r2 w2 a3 w3 ).mono fun e W' ⟨he, bel⟩ => ?_
  subst he
  exact ⟨_, rfl, _, _, _, [], _, [], hW', trodAll_mk1 (shut_bool Try.underlying4 _), (trodAll_cons_mk (Below.trod laidOut (by kernel_rfl) (of_decide_eq_true (by kernel_rfl)) k0 bel lt0) (trodAll_cons_mk (Below.trod laidOut (by kernel_rfl) (of_decide_eq_true (by kernel_rfl)) k1 bel lt1) (trodAll_cons_mk (Below.trod laidOut (by kernel_rfl) (of_decide_eq_true (by kernel_rfl)) k2 bel lt2) (trodAll_cons_mk (shut_int Try.underlying3 w3) trodAll_mk0)))), rfl, bel.frame _, fun h => by cases h⟩

theorem over : Rows.fnExactHubCostRow.holds Try.pinned (OpenSpec.ofChange Rows.fnExactHubCostSpec) :=
  OpenClaim.holds_of_wide 8 Try.f8 rfl rfl rfl rfl rfl rfl rfl ⟨rfl, rfl, rfl, rfl, rfl⟩ rfl rfl rfl rfl rfl (by kernel_rfl) Try.func8 (by kernel_rfl)
    (of_decide_eq_true (by kernel_rfl)) (by unfold Func.isWrapper; first | (rw [if_pos (by decide +kernel)]; kernel_rfl) | (rw [if_neg (by decide +kernel)]; exact ⟨rfl, rfl⟩))
    (fun os started H enc _ => lifted os started H enc)

/-- The statement. -/
theorem proved : Rows.FnExactHubCostSaid :=
  over
#print axioms proved
end Go.Proofs.Ytmbgipllkbahpaa.fnExactHubCost
