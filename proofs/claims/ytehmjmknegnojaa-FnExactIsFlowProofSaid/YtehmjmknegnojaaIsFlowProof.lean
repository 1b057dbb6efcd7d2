/- Proved here: called with any arguments, the law FnExactIsFlowProof returns true and the arguments read afterwards as they read before: impl.IsFlowProof answers as its model does, which reports whether prices prove that no flow costs less.
   Conditions: none but the statement's own (the arguments can be read as data). -/
import Derived.Test.YtehmjmknegnojaaRows
import Derived.WalkKit
import Derived.ProofKit
import Derived.OpenShut
import Derived.ShutString
import Derived.Below
import Derived.ChangeOld
import Derived.HandedShaped
import Derived.Test.YtehmjmknegnojaaOpen
import Derived.Test.YtehmjmknegnojaaPairIsFlowProof
namespace Go.Proofs.Ytehmjmknegnojaa.fnExactIsFlowProof
open Go.ChangeShapes Go.WideShapes Go.ChangeAt Go.RowKit
open Go.ChangeMaps (open_string shut_string)
set_option linter.unusedVariables false

theorem own : ownKnob Try.prog.godebug = none := by kernel_rfl
theorem laidOut : laidOutB Try.prog = true := by kernel_rfl
/- The walk of the law's body. -/
set_option maxRecDepth 100000 in
set_option maxHeartbeats 1500000 in
theorem walk (W : World) (F0 : Fld) (w0 : F0.At W) (r1 : Row) (w1 : r1.At W) (r2 : Row) (w2 : r2.At W) (r3 : Row) (w3 : r3.At W) (T4 : Tab) (w4 : T4.At W) (r5 : Row) (w5 : r5.At W) (r6 : Row) (w6 : r6.At W)  :
    Calls Try.prog 8 #[F0.val, r1.val, r2.val, r3.val, T4.val, r5.val, r6.val] W fun e w' => e = .returned (.bool true) ∧ Below W.heap.size W w' := by
  have hB_0 := Below.refl W.heap.size W
  have hlim1 : (r1.l.length : Int) ≤ 9223372036854775807 := by obtain ⟨q1, q2, _⟩ := w1; rw [iv_length] at q1; unfold maxLen at q2; omega
  have hlim2 : (r2.l.length : Int) ≤ 9223372036854775807 := by obtain ⟨q1, q2, _⟩ := w2; rw [iv_length] at q1; unfold maxLen at q2; omega
  have hlim3 : (r3.l.length : Int) ≤ 9223372036854775807 := by obtain ⟨q1, q2, _⟩ := w3; rw [iv_length] at q1; unfold maxLen at q2; omega
  have hlim5 : (r5.l.length : Int) ≤ 9223372036854775807 := by obtain ⟨q1, q2, _⟩ := w5; rw [iv_length] at q1; unfold maxLen at q2; omega
  have hlim6 : (r6.l.length : Int) ≤ 9223372036854775807 := by obtain ⟨q1, q2, _⟩ := w6; rw [iv_length] at q1; unfold maxLen at q2; omega
  have A0_0 := Lib.hid w0.in
  clear w0
  have A1_0 := Lib.hid w1.in
  clear w1
  have A2_0 := Lib.hid w2.in
  clear w2
  have A3_0 := Lib.hid w3.in
  clear w3
  have A5_0 := Lib.hid w5.in
  clear w5
  have A6_0 := Lib.hid w6.in
  clear w6
  have A4_0 := Lib.hid w4.in
  clear w4
  by_cases hbig1 : (1048576 : Int) < r1.l.length
  · show Calls _ _ #[.agg #[F0.o.val, F0.t.val], .slice r1.a r1.l.length r1.c, .slice r2.a r2.l.length r2.c, .slice r3.a r3.l.length r3.c, .slice T4.a T4.R.length T4.c, .slice r5.a r5.l.length r5.c, .slice r6.a r6.l.length r6.c] _ _
    go_enter Try.func8, Try.ntmps8
    go_wp2
    go_ret
    exact ⟨rfl, below_alloc _ _⟩
  have hs1 : r1.l.length ≤ 1048576 := by omega
  by_cases hbig2 : (1048576 : Int) < r2.l.length
  · show Calls _ _ #[.agg #[F0.o.val, F0.t.val], .slice r1.a r1.l.length r1.c, .slice r2.a r2.l.length r2.c, .slice r3.a r3.l.length r3.c, .slice T4.a T4.R.length T4.c, .slice r5.a r5.l.length r5.c, .slice r6.a r6.l.length r6.c] _ _
    go_enter Try.func8, Try.ntmps8
    go_wp2
    go_ret
    exact ⟨rfl, below_alloc _ _⟩
  have hs2 : r2.l.length ≤ 1048576 := by omega
  by_cases hbig3 : (1048576 : Int) < r3.l.length
  · show Calls _ _ #[.agg #[F0.o.val, F0.t.val], .slice r1.a r1.l.length r1.c, .slice r2.a r2.l.length r2.c, .slice r3.a r3.l.length r3.c, .slice T4.a T4.R.length T4.c, .slice r5.a r5.l.length r5.c, .slice r6.a r6.l.length r6.c] _ _
    go_enter Try.func8, Try.ntmps8
    go_wp2
    go_ret
    exact ⟨rfl, below_alloc _ _⟩
  have hs3 : r3.l.length ≤ 1048576 := by omega
  by_cases hbig5 : (1048576 : Int) < r5.l.length
  · show Calls _ _ #[.agg #[F0.o.val, F0.t.val], .slice r1.a r1.l.length r1.c, .slice r2.a r2.l.length r2.c, .slice r3.a r3.l.length r3.c, .slice T4.a T4.R.length T4.c, .slice r5.a r5.l.length r5.c, .slice r6.a r6.l.length r6.c] _ _
    go_enter Try.func8, Try.ntmps8
    go_wp2
    go_ret
    exact ⟨rfl, below_alloc _ _⟩
  have hs5 : r5.l.length ≤ 1048576 := by omega
  by_cases hbig6 : (1048576 : Int) < r6.l.length
  · show Calls _ _ #[.agg #[F0.o.val, F0.t.val], .slice r1.a r1.l.length r1.c, .slice r2.a r2.l.length r2.c, .slice r3.a r3.l.length r3.c, .slice T4.a T4.R.length T4.c, .slice r5.a r5.l.length r5.c, .slice r6.a r6.l.length r6.c] _ _
    go_enter Try.func8, Try.ntmps8
    go_wp2
    go_ret
    exact ⟨rfl, below_alloc _ _⟩
  have hs6 : r6.l.length ≤ 1048576 := by omega
  show Calls _ _ #[.agg #[F0.o.val, F0.t.val], .slice r1.a r1.l.length r1.c, .slice r2.a r2.l.length r2.c, .slice r3.a r3.l.length r3.c, .slice T4.a T4.R.length T4.c, .slice r5.a r5.l.length r5.c, .slice r6.a r6.l.length r6.c] _ _
  go_enter Try.func8, Try.ntmps8
  go_wp2_with fail
  obtain ⟨W1, hW⟩ : ∃ u, u = (W.alloc (Obj.cells #[F0.o.val, F0.t.val] 25)) := ⟨_, rfl⟩
  rw [show (W.alloc (Obj.cells #[F0.o.val, F0.t.val] 25)) = W1 from hW.symm]
  have hb : Below W.heap.size W W1 := by rw [hW]; exact below_alloc _ _
  have hbx : Box2 W1 W.heap.size (F0.o.val) (F0.t.val) 25 := by rw [hW]; exact Box2.made _ _ _ _ 
  have hsx : W1.heap.size = W.heap.size + 1 := by rw [hW]; exact size_alloc _ _
  clear hW
  have A0_1 := Lib.hid (A0_0.out.on hb)
  have A1_1 := Lib.hid (A1_0.out.on hb)
  have A2_1 := Lib.hid (A2_0.out.on hb)
  have A3_1 := Lib.hid (A3_0.out.on hb)
  have A5_1 := Lib.hid (A5_0.out.on hb)
  have A6_1 := Lib.hid (A6_0.out.on hb)
  have A4_1 := Lib.hid (A4_0.out.on hb)
  clear A0_0
  clear A1_0
  clear A2_0
  clear A3_0
  clear A5_0
  clear A6_0
  clear A4_0
  have hB_1 := hB_0.trans (hb.mono hB_0.size)
  have hz_1 := hb.size
  clear hB_0 hb
  have B0_1 := Lib.hid hbx
  clear hbx
  have hzx_1 := Nat.le_of_eq hsx
  have hzy_1 := Nat.le_of_eq hsx.symm
  clear hsx
  refine (show Calls _ _ _ _ _ from szFld_any F0 1048576 W1 A0_1.out.at (by omega) (by omega)).mono ?_
  rintro e W2 ⟨⟨left0, rfl, hl0, hm0⟩, hb⟩
  have A0_2 := Lib.hid (A0_1.out.on hb)
  have A1_2 := Lib.hid (A1_1.out.on hb)
  have A2_2 := Lib.hid (A2_1.out.on hb)
  have A3_2 := Lib.hid (A3_1.out.on hb)
  have A5_2 := Lib.hid (A5_1.out.on hb)
  have A6_2 := Lib.hid (A6_1.out.on hb)
  have A4_2 := Lib.hid (A4_1.out.on hb)
  have B0_2 := Lib.hid (B0_1.out.on hb)
  clear A0_1
  clear A1_1
  clear A2_1
  clear A3_1
  clear A5_1
  clear A6_1
  clear A4_1
  clear B0_1
  have hB_2 := hB_1.trans (hb.mono hB_1.size)
  have hz_2 := hb.size
  clear hB_1 hb
  by_cases hng0 : left0 < 0
  · go_wp2
    go_ret
    exact ⟨rfl, hB_2⟩
  have hs0 : F0.Small := by unfold Fld.Small; have := hl0 (by omega); omega
  have hle0 : left0 ≤ 1048576 := hm0
  have B0_c0 := B0_2.out.c0
  have B0_c1 := B0_2.out.c1
  go_wp2_with fail
  clear B0_c0 B0_c1
  refine (show Calls _ _ _ _ _ from szTab_law T4 left0 W2 A4_2.out.at (by omega) (by omega)).mono ?_
  rintro e W3 ⟨⟨left4, rfl, hl4, hm4⟩, hb⟩
  have A0_3 := Lib.hid (A0_2.out.on hb)
  have A1_3 := Lib.hid (A1_2.out.on hb)
  have A2_3 := Lib.hid (A2_2.out.on hb)
  have A3_3 := Lib.hid (A3_2.out.on hb)
  have A5_3 := Lib.hid (A5_2.out.on hb)
  have A6_3 := Lib.hid (A6_2.out.on hb)
  have A4_3 := Lib.hid (A4_2.out.on hb)
  have B0_3 := Lib.hid (B0_2.out.on hb)
  clear A0_2
  clear A1_2
  clear A2_2
  clear A3_2
  clear A5_2
  clear A6_2
  clear A4_2
  clear B0_2
  have hB_3 := hB_2.trans (hb.mono hB_2.size)
  have hz_3 := hb.size
  clear hB_2 hb
  by_cases hng4 : left4 < 0
  · go_wp2
    go_ret
    exact ⟨rfl, hB_3⟩
  have hs4 : T4.Small := by unfold Tab.Small; have := hl4 (by omega); omega
  have hle4 : left4 ≤ 1048576 := hm4
  obtain ⟨v, b, cs, ci⟩ := isFlowProof_pair F0 r1 r2 r3 T4 r5 r6 hs0 hs1 hs2 hs3 hs5 hs6 hs4
  have CS := Lib.hid cs
  have CI := Lib.hid ci
  clear cs ci
  have B0_c0 := B0_3.out.c0
  have B0_c1 := B0_3.out.c1
  go_wp2_with fail
  clear B0_c0 B0_c1
  refine (show Calls _ _ _ _ _ from toFld_law F0 W3 A0_3.out.at hs0).mono ?_
  rintro e W4 ⟨c0, rfl, hkc0, ho, hi, hb⟩
  have A0_4 := Lib.hid (A0_3.out.on hb)
  have A1_4 := Lib.hid (A1_3.out.on hb)
  have A2_4 := Lib.hid (A2_3.out.on hb)
  have A3_4 := Lib.hid (A3_3.out.on hb)
  have A5_4 := Lib.hid (A5_3.out.on hb)
  have A6_4 := Lib.hid (A6_3.out.on hb)
  have A4_4 := Lib.hid (A4_3.out.on hb)
  have B0_4 := Lib.hid (B0_3.out.on hb)
  clear A0_3
  clear A1_3
  clear A2_3
  clear A3_3
  clear A5_3
  clear A6_3
  clear A4_3
  clear B0_3
  have hB_4 := hB_3.trans (hb.mono hB_3.size)
  have hz_4 := hb.size
  clear hB_3 hb
  have Ic0_4 := Lib.hid hi
  have Oc0_4 := Lib.hid ho
  clear hi ho
  have B0_c0 := B0_4.out.c0
  have B0_c1 := B0_4.out.c1
  go_wp2_with fail
  clear B0_c0 B0_c1
  refine (show Calls _ _ _ _ _ from toInts_row r1 W4 A1_4.out.at hs1).mono ?_
  rintro e W5 ⟨c1, rfl, hk, -, ho, hi, hb⟩
  have hkc1 := Lib.hid hk
  clear hk
  have A0_5 := Lib.hid (A0_4.out.on hb)
  have A1_5 := Lib.hid (A1_4.out.on hb)
  have A2_5 := Lib.hid (A2_4.out.on hb)
  have A3_5 := Lib.hid (A3_4.out.on hb)
  have A5_5 := Lib.hid (A5_4.out.on hb)
  have A6_5 := Lib.hid (A6_4.out.on hb)
  have A4_5 := Lib.hid (A4_4.out.on hb)
  have B0_5 := Lib.hid (B0_4.out.on hb)
  have Ic0_5 := Lib.hid (Ic0_4.out.on hb)
  have Oc0_5 := Lib.hid (Oc0_4.out.on hb)
  clear A0_4
  clear A1_4
  clear A2_4
  clear A3_4
  clear A5_4
  clear A6_4
  clear A4_4
  clear B0_4
  clear Ic0_4
  clear Oc0_4
  have hB_5 := hB_4.trans (hb.mono hB_4.size)
  have hz_5 := hb.size
  clear hB_4 hb
  have Ic1_5 := Lib.hid hi
  have Oc1_5 := Lib.hid ho
  clear hi ho
  have B0_c0 := B0_5.out.c0
  have B0_c1 := B0_5.out.c1
  go_wp2_with fail
  clear B0_c0 B0_c1
  refine (show Calls _ _ _ _ _ from toInts_row r2 W5 A2_5.out.at hs2).mono ?_
  rintro e W6 ⟨c2, rfl, hk, -, ho, hi, hb⟩
  have hkc2 := Lib.hid hk
  clear hk
  have A0_6 := Lib.hid (A0_5.out.on hb)
  have A1_6 := Lib.hid (A1_5.out.on hb)
  have A2_6 := Lib.hid (A2_5.out.on hb)
  have A3_6 := Lib.hid (A3_5.out.on hb)
  have A5_6 := Lib.hid (A5_5.out.on hb)
  have A6_6 := Lib.hid (A6_5.out.on hb)
  have A4_6 := Lib.hid (A4_5.out.on hb)
  have B0_6 := Lib.hid (B0_5.out.on hb)
  have Ic0_6 := Lib.hid (Ic0_5.out.on hb)
  have Oc0_6 := Lib.hid (Oc0_5.out.on hb)
  have Ic1_6 := Lib.hid (Ic1_5.out.on hb)
  have Oc1_6 := Lib.hid (Oc1_5.out.on hb)
  clear A0_5
  clear A1_5
  clear A2_5
  clear A3_5
  clear A5_5
  clear A6_5
  clear A4_5
  clear B0_5
  clear Ic0_5
  clear Oc0_5
  clear Ic1_5
  clear Oc1_5
  have hB_6 := hB_5.trans (hb.mono hB_5.size)
  have hz_6 := hb.size
  clear hB_5 hb
  have Ic2_6 := Lib.hid hi
  have Oc2_6 := Lib.hid ho
  clear hi ho
  have B0_c0 := B0_6.out.c0
  have B0_c1 := B0_6.out.c1
  go_wp2_with fail
  clear B0_c0 B0_c1
  refine (show Calls _ _ _ _ _ from toInts_row r3 W6 A3_6.out.at hs3).mono ?_
  rintro e W7 ⟨c3, rfl, hk, -, ho, hi, hb⟩
  have hkc3 := Lib.hid hk
  clear hk
  have A0_7 := Lib.hid (A0_6.out.on hb)
  have A1_7 := Lib.hid (A1_6.out.on hb)
  have A2_7 := Lib.hid (A2_6.out.on hb)
  have A3_7 := Lib.hid (A3_6.out.on hb)
  have A5_7 := Lib.hid (A5_6.out.on hb)
  have A6_7 := Lib.hid (A6_6.out.on hb)
  have A4_7 := Lib.hid (A4_6.out.on hb)
  have B0_7 := Lib.hid (B0_6.out.on hb)
  have Ic0_7 := Lib.hid (Ic0_6.out.on hb)
  have Oc0_7 := Lib.hid (Oc0_6.out.on hb)
  have Ic1_7 := Lib.hid (Ic1_6.out.on hb)
  have Oc1_7 := Lib.hid (Oc1_6.out.on hb)
  have Ic2_7 := Lib.hid (Ic2_6.out.on hb)
  have Oc2_7 := Lib.hid (Oc2_6.out.on hb)
  clear A0_6
  clear A1_6
  clear A2_6
  clear A3_6
  clear A5_6
  clear A6_6
  clear A4_6
  clear B0_6
  clear Ic0_6
  clear Oc0_6
  clear Ic1_6
  clear Oc1_6
  clear Ic2_6
  clear Oc2_6
  have hB_7 := hB_6.trans (hb.mono hB_6.size)
  have hz_7 := hb.size
  clear hB_6 hb
  have Ic3_7 := Lib.hid hi
  have Oc3_7 := Lib.hid ho
  clear hi ho
  have B0_c0 := B0_7.out.c0
  have B0_c1 := B0_7.out.c1
  go_wp2_with fail
  clear B0_c0 B0_c1
  refine (show Calls _ _ _ _ _ from toTab_law T4 W7 A4_7.out.at hs4).mono ?_
  rintro e W8 ⟨c4, rfl, hk, ho, hi, hb⟩
  have hkc4 := Lib.hid hk
  clear hk
  have A0_8 := Lib.hid (A0_7.out.on hb)
  have A1_8 := Lib.hid (A1_7.out.on hb)
  have A2_8 := Lib.hid (A2_7.out.on hb)
  have A3_8 := Lib.hid (A3_7.out.on hb)
  have A5_8 := Lib.hid (A5_7.out.on hb)
  have A6_8 := Lib.hid (A6_7.out.on hb)
  have A4_8 := Lib.hid (A4_7.out.on hb)
  have B0_8 := Lib.hid (B0_7.out.on hb)
  have Ic0_8 := Lib.hid (Ic0_7.out.on hb)
  have Oc0_8 := Lib.hid (Oc0_7.out.on hb)
  have Ic1_8 := Lib.hid (Ic1_7.out.on hb)
  have Oc1_8 := Lib.hid (Oc1_7.out.on hb)
  have Ic2_8 := Lib.hid (Ic2_7.out.on hb)
  have Oc2_8 := Lib.hid (Oc2_7.out.on hb)
  have Ic3_8 := Lib.hid (Ic3_7.out.on hb)
  have Oc3_8 := Lib.hid (Oc3_7.out.on hb)
  clear A0_7
  clear A1_7
  clear A2_7
  clear A3_7
  clear A5_7
  clear A6_7
  clear A4_7
  clear B0_7
  clear Ic0_7
  clear Oc0_7
  clear Ic1_7
  clear Oc1_7
  clear Ic2_7
  clear Oc2_7
  clear Ic3_7
  clear Oc3_7
  have hB_8 := hB_7.trans (hb.mono hB_7.size)
  have hz_8 := hb.size
  clear hB_7 hb
  have Ic4_8 := Lib.hid hi
  have Oc4_8 := Lib.hid ho
  clear hi ho
  have B0_c0 := B0_8.out.c0
  have B0_c1 := B0_8.out.c1
  go_wp2_with fail
  clear B0_c0 B0_c1
  refine (show Calls _ _ _ _ _ from toInts_row r5 W8 A5_8.out.at hs5).mono ?_
  rintro e W9 ⟨c5, rfl, hk, -, ho, hi, hb⟩
  have hkc5 := Lib.hid hk
  clear hk
  have A0_9 := Lib.hid (A0_8.out.on hb)
  have A1_9 := Lib.hid (A1_8.out.on hb)
  have A2_9 := Lib.hid (A2_8.out.on hb)
  have A3_9 := Lib.hid (A3_8.out.on hb)
  have A5_9 := Lib.hid (A5_8.out.on hb)
  have A6_9 := Lib.hid (A6_8.out.on hb)
  have A4_9 := Lib.hid (A4_8.out.on hb)
  have B0_9 := Lib.hid (B0_8.out.on hb)
  have Ic0_9 := Lib.hid (Ic0_8.out.on hb)
  have Oc0_9 := Lib.hid (Oc0_8.out.on hb)
  have Ic1_9 := Lib.hid (Ic1_8.out.on hb)
  have Oc1_9 := Lib.hid (Oc1_8.out.on hb)
  have Ic2_9 := Lib.hid (Ic2_8.out.on hb)
  have Oc2_9 := Lib.hid (Oc2_8.out.on hb)
  have Ic3_9 := Lib.hid (Ic3_8.out.on hb)
  have Oc3_9 := Lib.hid (Oc3_8.out.on hb)
  have Ic4_9 := Lib.hid (Ic4_8.out.on hb)
  have Oc4_9 := Lib.hid (Oc4_8.out.on hb)
  clear A0_8
  clear A1_8
  clear A2_8
  clear A3_8
  clear A5_8
  clear A6_8
  clear A4_8
  clear B0_8
  clear Ic0_8
  clear Oc0_8
  clear Ic1_8
  clear Oc1_8
  clear Ic2_8
  clear Oc2_8
  clear Ic3_8
  clear Oc3_8
  clear Ic4_8
  clear Oc4_8
  have hB_9 := hB_8.trans (hb.mono hB_8.size)
  have hz_9 := hb.size
  clear hB_8 hb
  have Ic5_9 := Lib.hid hi
  have Oc5_9 := Lib.hid ho
  clear hi ho
  have B0_c0 := B0_9.out.c0
  have B0_c1 := B0_9.out.c1
  go_wp2_with fail
  clear B0_c0 B0_c1
  refine (show Calls _ _ _ _ _ from toInts_row r6 W9 A6_9.out.at hs6).mono ?_
  rintro e W10 ⟨c6, rfl, hk, -, ho, hi, hb⟩
  have hkc6 := Lib.hid hk
  clear hk
  have A0_10 := Lib.hid (A0_9.out.on hb)
  have A1_10 := Lib.hid (A1_9.out.on hb)
  have A2_10 := Lib.hid (A2_9.out.on hb)
  have A3_10 := Lib.hid (A3_9.out.on hb)
  have A5_10 := Lib.hid (A5_9.out.on hb)
  have A6_10 := Lib.hid (A6_9.out.on hb)
  have A4_10 := Lib.hid (A4_9.out.on hb)
  have B0_10 := Lib.hid (B0_9.out.on hb)
  have Ic0_10 := Lib.hid (Ic0_9.out.on hb)
  have Oc0_10 := Lib.hid (Oc0_9.out.on hb)
  have Ic1_10 := Lib.hid (Ic1_9.out.on hb)
  have Oc1_10 := Lib.hid (Oc1_9.out.on hb)
  have Ic2_10 := Lib.hid (Ic2_9.out.on hb)
  have Oc2_10 := Lib.hid (Oc2_9.out.on hb)
  have Ic3_10 := Lib.hid (Ic3_9.out.on hb)
  have Oc3_10 := Lib.hid (Oc3_9.out.on hb)
  have Ic4_10 := Lib.hid (Ic4_9.out.on hb)
  have Oc4_10 := Lib.hid (Oc4_9.out.on hb)
  have Ic5_10 := Lib.hid (Ic5_9.out.on hb)
  have Oc5_10 := Lib.hid (Oc5_9.out.on hb)
  clear A0_9
  clear A1_9
  clear A2_9
  clear A3_9
  clear A5_9
  clear A6_9
  clear A4_9
  clear B0_9
  clear Ic0_9
  clear Oc0_9
  clear Ic1_9
  clear Oc1_9
  clear Ic2_9
  clear Oc2_9
  clear Ic3_9
  clear Oc3_9
  clear Ic4_9
  clear Oc4_9
  clear Ic5_9
  clear Oc5_9
  have hB_10 := hB_9.trans (hb.mono hB_9.size)
  have hz_10 := hb.size
  clear hB_9 hb
  have Ic6_10 := Lib.hid hi
  have Oc6_10 := Lib.hid ho
  clear hi ho
  have B0_c0 := B0_10.out.c0
  have B0_c1 := B0_10.out.c1
  go_wp2_with fail
  clear B0_c0 B0_c1
  refine (show Calls _ _ _ _ _ from CS.out c0 c1 c2 c3 c5 c6 c4 W10 Ic0_10.out.at Ic1_10.out.at Ic2_10.out.at Ic3_10.out.at Ic5_10.out.at Ic6_10.out.at Ic4_10.out.at hkc0 hkc1.out hkc2.out hkc3.out hkc5.out hkc6.out hkc4.out).mono ?_
  rintro e W11 ⟨rfl, hb⟩
  have A0_11 := Lib.hid (A0_10.out.on hb)
  have A1_11 := Lib.hid (A1_10.out.on hb)
  have A2_11 := Lib.hid (A2_10.out.on hb)
  have A3_11 := Lib.hid (A3_10.out.on hb)
  have A5_11 := Lib.hid (A5_10.out.on hb)
  have A6_11 := Lib.hid (A6_10.out.on hb)
  have A4_11 := Lib.hid (A4_10.out.on hb)
  have B0_11 := Lib.hid (B0_10.out.on hb)
  have Ic0_11 := Lib.hid (Ic0_10.out.on hb)
  have Oc0_11 := Lib.hid (Oc0_10.out.on hb)
  have Ic1_11 := Lib.hid (Ic1_10.out.on hb)
  have Oc1_11 := Lib.hid (Oc1_10.out.on hb)
  have Ic2_11 := Lib.hid (Ic2_10.out.on hb)
  have Oc2_11 := Lib.hid (Oc2_10.out.on hb)
  have Ic3_11 := Lib.hid (Ic3_10.out.on hb)
  have Oc3_11 := Lib.hid (Oc3_10.out.on hb)
  have Ic4_11 := Lib.hid (Ic4_10.out.on hb)
  have Oc4_11 := Lib.hid (Oc4_10.out.on hb)
  have Ic5_11 := Lib.hid (Ic5_10.out.on hb)
  have Oc5_11 := Lib.hid (Oc5_10.out.on hb)
  have Ic6_11 := Lib.hid (Ic6_10.out.on hb)
  have Oc6_11 := Lib.hid (Oc6_10.out.on hb)
  clear A0_10
  clear A1_10
  clear A2_10
  clear A3_10
  clear A5_10
  clear A6_10
  clear A4_10
  clear B0_10
  clear Ic0_10
  clear Oc0_10
  clear Ic1_10
  clear Oc1_10
  clear Ic2_10
  clear Oc2_10
  clear Ic3_10
  clear Oc3_10
  clear Ic4_10
  clear Oc4_10
  clear Ic5_10
  clear Oc5_10
  clear Ic6_10
  clear Oc6_10
  have hB_11 := hB_10.trans (hb.mono hB_10.size)
  have hz_11 := hb.size
  clear hB_10 hb
  clear Oc0_11
  clear Ic0_11
  clear Oc1_11
  clear Ic1_11
  clear Oc2_11
  clear Ic2_11
  clear Oc3_11
  clear Ic3_11
  clear Oc5_11
  clear Ic5_11
  clear Oc6_11
  clear Ic6_11
  clear Oc4_11
  clear Ic4_11
  have B0_c0 := B0_11.out.c0
  have B0_c1 := B0_11.out.c1
  go_wp2_with fail
  clear B0_c0 B0_c1
  refine (show Calls _ _ _ _ _ from toFld_law F0 W11 A0_11.out.at hs0).mono ?_
  rintro e W12 ⟨x0, rfl, hkx0, ho, hi, hb⟩
  have A0_12 := Lib.hid (A0_11.out.on hb)
  have A1_12 := Lib.hid (A1_11.out.on hb)
  have A2_12 := Lib.hid (A2_11.out.on hb)
  have A3_12 := Lib.hid (A3_11.out.on hb)
  have A5_12 := Lib.hid (A5_11.out.on hb)
  have A6_12 := Lib.hid (A6_11.out.on hb)
  have A4_12 := Lib.hid (A4_11.out.on hb)
  have B0_12 := Lib.hid (B0_11.out.on hb)
  clear A0_11
  clear A1_11
  clear A2_11
  clear A3_11
  clear A5_11
  clear A6_11
  clear A4_11
  clear B0_11
  have hB_12 := hB_11.trans (hb.mono hB_11.size)
  have hz_12 := hb.size
  clear hB_11 hb
  have Ix0_12 := Lib.hid hi
  have Ox0_12 := Lib.hid ho
  clear hi ho
  have B0_c0 := B0_12.out.c0
  have B0_c1 := B0_12.out.c1
  go_wp2_with fail
  clear B0_c0 B0_c1
  obtain ⟨W13, hW⟩ : ∃ u, u = boxed W12 (.slice x0.o.a x0.o.l.length x0.o.c) (.slice x0.t.a x0.t.R.length x0.t.c) := ⟨_, rfl⟩
  rw [show W12.alloc (Obj.cells #[.slice x0.o.a x0.o.l.length x0.o.c, .slice x0.t.a x0.t.R.length x0.t.c] 29) = W13 from hW.symm]
  have hb : Below W12.heap.size W12 W13 := by rw [hW]; exact boxed_below _ _ _ 
  have hbx : Box2 W13 W12.heap.size (.slice x0.o.a x0.o.l.length x0.o.c) (.slice x0.t.a x0.t.R.length x0.t.c) 29 := by rw [hW]; exact boxed_box _ _ _ 
  have hsx : W13.heap.size = W12.heap.size + 1 := by rw [hW]; exact boxed_size _ _ _ 
  clear hW
  have A0_13 := Lib.hid (A0_12.out.on hb)
  have A1_13 := Lib.hid (A1_12.out.on hb)
  have A2_13 := Lib.hid (A2_12.out.on hb)
  have A3_13 := Lib.hid (A3_12.out.on hb)
  have A5_13 := Lib.hid (A5_12.out.on hb)
  have A6_13 := Lib.hid (A6_12.out.on hb)
  have A4_13 := Lib.hid (A4_12.out.on hb)
  have B0_13 := Lib.hid (B0_12.out.on hb)
  have Ix0_13 := Lib.hid (Ix0_12.out.on hb)
  have Ox0_13 := Lib.hid (Ox0_12.out.on hb)
  clear A0_12
  clear A1_12
  clear A2_12
  clear A3_12
  clear A5_12
  clear A6_12
  clear A4_12
  clear B0_12
  clear Ix0_12
  clear Ox0_12
  have hB_13 := hB_12.trans (hb.mono hB_12.size)
  have hz_13 := hb.size
  clear hB_12 hb
  have Bx0_13 := Lib.hid hbx
  clear hbx
  have hzx_13 := Nat.le_of_eq hsx
  have hzy_13 := Nat.le_of_eq hsx.symm
  clear hsx
  refine (show Calls _ _ _ _ _ from toInts_row r1 W13 A1_13.out.at hs1).mono ?_
  rintro e W14 ⟨x1, rfl, hk, -, ho, hi, hb⟩
  have hkx1 := Lib.hid hk
  clear hk
  have A0_14 := Lib.hid (A0_13.out.on hb)
  have A1_14 := Lib.hid (A1_13.out.on hb)
  have A2_14 := Lib.hid (A2_13.out.on hb)
  have A3_14 := Lib.hid (A3_13.out.on hb)
  have A5_14 := Lib.hid (A5_13.out.on hb)
  have A6_14 := Lib.hid (A6_13.out.on hb)
  have A4_14 := Lib.hid (A4_13.out.on hb)
  have B0_14 := Lib.hid (B0_13.out.on hb)
  have Ix0_14 := Lib.hid (Ix0_13.out.on hb)
  have Ox0_14 := Lib.hid (Ox0_13.out.on hb)
  have Bx0_14 := Lib.hid (Bx0_13.out.on hb)
  clear A0_13
  clear A1_13
  clear A2_13
  clear A3_13
  clear A5_13
  clear A6_13
  clear A4_13
  clear B0_13
  clear Ix0_13
  clear Ox0_13
  clear Bx0_13
  have hB_14 := hB_13.trans (hb.mono hB_13.size)
  have hz_14 := hb.size
  clear hB_13 hb
  have Ix1_14 := Lib.hid hi
  have Ox1_14 := Lib.hid ho
  clear hi ho
  have B0_c0 := B0_14.out.c0
  have B0_c1 := B0_14.out.c1
  have Bx0_c0 := Bx0_14.out.c0
  have Bx0_c1 := Bx0_14.out.c1
  go_wp2_with fail
  clear B0_c0 B0_c1
  clear Bx0_c0 Bx0_c1
  refine (show Calls _ _ _ _ _ from toInts_row r2 W14 A2_14.out.at hs2).mono ?_
  rintro e W15 ⟨x2, rfl, hk, -, ho, hi, hb⟩
  have hkx2 := Lib.hid hk
  clear hk
  have A0_15 := Lib.hid (A0_14.out.on hb)
  have A1_15 := Lib.hid (A1_14.out.on hb)
  have A2_15 := Lib.hid (A2_14.out.on hb)
  have A3_15 := Lib.hid (A3_14.out.on hb)
  have A5_15 := Lib.hid (A5_14.out.on hb)
  have A6_15 := Lib.hid (A6_14.out.on hb)
  have A4_15 := Lib.hid (A4_14.out.on hb)
  have B0_15 := Lib.hid (B0_14.out.on hb)
  have Ix0_15 := Lib.hid (Ix0_14.out.on hb)
  have Ox0_15 := Lib.hid (Ox0_14.out.on hb)
  have Bx0_15 := Lib.hid (Bx0_14.out.on hb)
  have Ix1_15 := Lib.hid (Ix1_14.out.on hb)
  have Ox1_15 := Lib.hid (Ox1_14.out.on hb)
  clear A0_14
  clear A1_14
  clear A2_14
  clear A3_14
  clear A5_14
  clear A6_14
  clear A4_14
  clear B0_14
  clear Ix0_14
  clear Ox0_14
  clear Bx0_14
  clear Ix1_14
  clear Ox1_14
  have hB_15 := hB_14.trans (hb.mono hB_14.size)
  have hz_15 := hb.size
  clear hB_14 hb
  have Ix2_15 := Lib.hid hi
  have Ox2_15 := Lib.hid ho
  clear hi ho
  have B0_c0 := B0_15.out.c0
  have B0_c1 := B0_15.out.c1
  have Bx0_c0 := Bx0_15.out.c0
  have Bx0_c1 := Bx0_15.out.c1
  go_wp2_with fail
  clear B0_c0 B0_c1
  clear Bx0_c0 Bx0_c1
  refine (show Calls _ _ _ _ _ from toInts_row r3 W15 A3_15.out.at hs3).mono ?_
  rintro e W16 ⟨x3, rfl, hk, -, ho, hi, hb⟩
  have hkx3 := Lib.hid hk
  clear hk
  have A0_16 := Lib.hid (A0_15.out.on hb)
  have A1_16 := Lib.hid (A1_15.out.on hb)
  have A2_16 := Lib.hid (A2_15.out.on hb)
  have A3_16 := Lib.hid (A3_15.out.on hb)
  have A5_16 := Lib.hid (A5_15.out.on hb)
  have A6_16 := Lib.hid (A6_15.out.on hb)
  have A4_16 := Lib.hid (A4_15.out.on hb)
  have B0_16 := Lib.hid (B0_15.out.on hb)
  have Ix0_16 := Lib.hid (Ix0_15.out.on hb)
  have Ox0_16 := Lib.hid (Ox0_15.out.on hb)
  have Bx0_16 := Lib.hid (Bx0_15.out.on hb)
  have Ix1_16 := Lib.hid (Ix1_15.out.on hb)
  have Ox1_16 := Lib.hid (Ox1_15.out.on hb)
  have Ix2_16 := Lib.hid (Ix2_15.out.on hb)
  have Ox2_16 := Lib.hid (Ox2_15.out.on hb)
  clear A0_15
  clear A1_15
  clear A2_15
  clear A3_15
  clear A5_15
  clear A6_15
  clear A4_15
  clear B0_15
  clear Ix0_15
  clear Ox0_15
  clear Bx0_15
  clear Ix1_15
  clear Ox1_15
  clear Ix2_15
  clear Ox2_15
  have hB_16 := hB_15.trans (hb.mono hB_15.size)
  have hz_16 := hb.size
  clear hB_15 hb
  have Ix3_16 := Lib.hid hi
  have Ox3_16 := Lib.hid ho
  clear hi ho
  have B0_c0 := B0_16.out.c0
  have B0_c1 := B0_16.out.c1
  have Bx0_c0 := Bx0_16.out.c0
  have Bx0_c1 := Bx0_16.out.c1
  go_wp2_with fail
  clear B0_c0 B0_c1
  clear Bx0_c0 Bx0_c1
  refine (show Calls _ _ _ _ _ from toTab_law T4 W16 A4_16.out.at hs4).mono ?_
  rintro e W17 ⟨x4, rfl, hk, ho, hi, hb⟩
  have hkx4 := Lib.hid hk
  clear hk
  have A0_17 := Lib.hid (A0_16.out.on hb)
  have A1_17 := Lib.hid (A1_16.out.on hb)
  have A2_17 := Lib.hid (A2_16.out.on hb)
  have A3_17 := Lib.hid (A3_16.out.on hb)
  have A5_17 := Lib.hid (A5_16.out.on hb)
  have A6_17 := Lib.hid (A6_16.out.on hb)
  have A4_17 := Lib.hid (A4_16.out.on hb)
  have B0_17 := Lib.hid (B0_16.out.on hb)
  have Ix0_17 := Lib.hid (Ix0_16.out.on hb)
  have Ox0_17 := Lib.hid (Ox0_16.out.on hb)
  have Bx0_17 := Lib.hid (Bx0_16.out.on hb)
  have Ix1_17 := Lib.hid (Ix1_16.out.on hb)
  have Ox1_17 := Lib.hid (Ox1_16.out.on hb)
  have Ix2_17 := Lib.hid (Ix2_16.out.on hb)
  have Ox2_17 := Lib.hid (Ox2_16.out.on hb)
  have Ix3_17 := Lib.hid (Ix3_16.out.on hb)
  have Ox3_17 := Lib.hid (Ox3_16.out.on hb)
  clear A0_16
  clear A1_16
  clear A2_16
  clear A3_16
  clear A5_16
  clear A6_16
  clear A4_16
  clear B0_16
  clear Ix0_16
  clear Ox0_16
  clear Bx0_16
  clear Ix1_16
  clear Ox1_16
  clear Ix2_16
  clear Ox2_16
  clear Ix3_16
  clear Ox3_16
  have hB_17 := hB_16.trans (hb.mono hB_16.size)
  have hz_17 := hb.size
  clear hB_16 hb
  have Ix4_17 := Lib.hid hi
  have Ox4_17 := Lib.hid ho
  clear hi ho
  have B0_c0 := B0_17.out.c0
  have B0_c1 := B0_17.out.c1
  have Bx0_c0 := Bx0_17.out.c0
  have Bx0_c1 := Bx0_17.out.c1
  go_wp2_with fail
  clear B0_c0 B0_c1
  clear Bx0_c0 Bx0_c1
  refine (show Calls _ _ _ _ _ from toInts_row r5 W17 A5_17.out.at hs5).mono ?_
  rintro e W18 ⟨x5, rfl, hk, -, ho, hi, hb⟩
  have hkx5 := Lib.hid hk
  clear hk
  have A0_18 := Lib.hid (A0_17.out.on hb)
  have A1_18 := Lib.hid (A1_17.out.on hb)
  have A2_18 := Lib.hid (A2_17.out.on hb)
  have A3_18 := Lib.hid (A3_17.out.on hb)
  have A5_18 := Lib.hid (A5_17.out.on hb)
  have A6_18 := Lib.hid (A6_17.out.on hb)
  have A4_18 := Lib.hid (A4_17.out.on hb)
  have B0_18 := Lib.hid (B0_17.out.on hb)
  have Ix0_18 := Lib.hid (Ix0_17.out.on hb)
  have Ox0_18 := Lib.hid (Ox0_17.out.on hb)
  have Bx0_18 := Lib.hid (Bx0_17.out.on hb)
  have Ix1_18 := Lib.hid (Ix1_17.out.on hb)
  have Ox1_18 := Lib.hid (Ox1_17.out.on hb)
  have Ix2_18 := Lib.hid (Ix2_17.out.on hb)
  have Ox2_18 := Lib.hid (Ox2_17.out.on hb)
  have Ix3_18 := Lib.hid (Ix3_17.out.on hb)
  have Ox3_18 := Lib.hid (Ox3_17.out.on hb)
  have Ix4_18 := Lib.hid (Ix4_17.out.on hb)
  have Ox4_18 := Lib.hid (Ox4_17.out.on hb)
  clear A0_17
  clear A1_17
  clear A2_17
  clear A3_17
  clear A5_17
  clear A6_17
  clear A4_17
  clear B0_17
  clear Ix0_17
  clear Ox0_17
  clear Bx0_17
  clear Ix1_17
  clear Ox1_17
  clear Ix2_17
  clear Ox2_17
  clear Ix3_17
  clear Ox3_17
  clear Ix4_17
  clear Ox4_17
  have hB_18 := hB_17.trans (hb.mono hB_17.size)
  have hz_18 := hb.size
  clear hB_17 hb
  have Ix5_18 := Lib.hid hi
  have Ox5_18 := Lib.hid ho
  clear hi ho
  have B0_c0 := B0_18.out.c0
  have B0_c1 := B0_18.out.c1
  have Bx0_c0 := Bx0_18.out.c0
  have Bx0_c1 := Bx0_18.out.c1
  go_wp2_with fail
  clear B0_c0 B0_c1
  clear Bx0_c0 Bx0_c1
  refine (show Calls _ _ _ _ _ from toInts_row r6 W18 A6_18.out.at hs6).mono ?_
  rintro e W19 ⟨x6, rfl, hk, -, ho, hi, hb⟩
  have hkx6 := Lib.hid hk
  clear hk
  have A0_19 := Lib.hid (A0_18.out.on hb)
  have A1_19 := Lib.hid (A1_18.out.on hb)
  have A2_19 := Lib.hid (A2_18.out.on hb)
  have A3_19 := Lib.hid (A3_18.out.on hb)
  have A5_19 := Lib.hid (A5_18.out.on hb)
  have A6_19 := Lib.hid (A6_18.out.on hb)
  have A4_19 := Lib.hid (A4_18.out.on hb)
  have B0_19 := Lib.hid (B0_18.out.on hb)
  have Ix0_19 := Lib.hid (Ix0_18.out.on hb)
  have Ox0_19 := Lib.hid (Ox0_18.out.on hb)
  have Bx0_19 := Lib.hid (Bx0_18.out.on hb)
  have Ix1_19 := Lib.hid (Ix1_18.out.on hb)
  have Ox1_19 := Lib.hid (Ox1_18.out.on hb)
  have Ix2_19 := Lib.hid (Ix2_18.out.on hb)
  have Ox2_19 := Lib.hid (Ox2_18.out.on hb)
  have Ix3_19 := Lib.hid (Ix3_18.out.on hb)
  have Ox3_19 := Lib.hid (Ox3_18.out.on hb)
  have Ix4_19 := Lib.hid (Ix4_18.out.on hb)
  have Ox4_19 := Lib.hid (Ox4_18.out.on hb)
  have Ix5_19 := Lib.hid (Ix5_18.out.on hb)
  have Ox5_19 := Lib.hid (Ox5_18.out.on hb)
  clear A0_18
  clear A1_18
  clear A2_18
  clear A3_18
  clear A5_18
  clear A6_18
  clear A4_18
  clear B0_18
  clear Ix0_18
  clear Ox0_18
  clear Bx0_18
  clear Ix1_18
  clear Ox1_18
  clear Ix2_18
  clear Ox2_18
  clear Ix3_18
  clear Ox3_18
  clear Ix4_18
  clear Ox4_18
  clear Ix5_18
  clear Ox5_18
  have hB_19 := hB_18.trans (hb.mono hB_18.size)
  have hz_19 := hb.size
  clear hB_18 hb
  have Ix6_19 := Lib.hid hi
  have Ox6_19 := Lib.hid ho
  clear hi ho
  have B0_c0 := B0_19.out.c0
  have B0_c1 := B0_19.out.c1
  have Bx0_c0 := Bx0_19.out.c0
  have Bx0_c1 := Bx0_19.out.c1
  go_wp2_with fail
  clear B0_c0 B0_c1
  clear Bx0_c0 Bx0_c1
  refine (show Calls _ _ _ _ _ from CI.out x0 x1 x2 x3 x5 x6 x4 W19 Ix0_19.out.at Ix1_19.out.at Ix2_19.out.at Ix3_19.out.at Ix5_19.out.at Ix6_19.out.at Ix4_19.out.at hkx0 hkx1.out hkx2.out hkx3.out hkx5.out hkx6.out hkx4.out).mono ?_
  rintro e W20 ⟨rfl, hb⟩
  have A0_20 := Lib.hid (A0_19.out.on hb)
  have A1_20 := Lib.hid (A1_19.out.on hb)
  have A2_20 := Lib.hid (A2_19.out.on hb)
  have A3_20 := Lib.hid (A3_19.out.on hb)
  have A5_20 := Lib.hid (A5_19.out.on hb)
  have A6_20 := Lib.hid (A6_19.out.on hb)
  have A4_20 := Lib.hid (A4_19.out.on hb)
  have B0_20 := Lib.hid (B0_19.out.on hb)
  have Ix0_20 := Lib.hid (Ix0_19.out.on hb)
  have Ox0_20 := Lib.hid (Ox0_19.out.on hb)
  have Bx0_20 := Lib.hid (Bx0_19.out.on hb)
  have Ix1_20 := Lib.hid (Ix1_19.out.on hb)
  have Ox1_20 := Lib.hid (Ox1_19.out.on hb)
  have Ix2_20 := Lib.hid (Ix2_19.out.on hb)
  have Ox2_20 := Lib.hid (Ox2_19.out.on hb)
  have Ix3_20 := Lib.hid (Ix3_19.out.on hb)
  have Ox3_20 := Lib.hid (Ox3_19.out.on hb)
  have Ix4_20 := Lib.hid (Ix4_19.out.on hb)
  have Ox4_20 := Lib.hid (Ox4_19.out.on hb)
  have Ix5_20 := Lib.hid (Ix5_19.out.on hb)
  have Ox5_20 := Lib.hid (Ox5_19.out.on hb)
  have Ix6_20 := Lib.hid (Ix6_19.out.on hb)
  have Ox6_20 := Lib.hid (Ox6_19.out.on hb)
  clear A0_19
  clear A1_19
  clear A2_19
  clear A3_19
  clear A5_19
  clear A6_19
  clear A4_19
  clear B0_19
  clear Ix0_19
  clear Ox0_19
  clear Bx0_19
  clear Ix1_19
  clear Ox1_19
  clear Ix2_19
  clear Ox2_19
  clear Ix3_19
  clear Ox3_19
  clear Ix4_19
  clear Ox4_19
  clear Ix5_19
  clear Ox5_19
  clear Ix6_19
  clear Ox6_19
  have hB_20 := hB_19.trans (hb.mono hB_19.size)
  have hz_20 := hb.size
  clear hB_19 hb
  have B0_c0 := B0_20.out.c0
  have B0_c1 := B0_20.out.c1
  have Bx0_c0 := Bx0_20.out.c0
  have Bx0_c1 := Bx0_20.out.c1
  go_wp2_with fail
  clear B0_c0 B0_c1
  clear Bx0_c0 Bx0_c1
  have HS : Hid (∀ u, Below W20.heap.size W20 u → ((u.cell? ⟨W.heap.size, 0, none⟩ = some (F0.o.val) ∧ u.cell? ⟨W.heap.size, 1, none⟩ = some (F0.t.val) ∧ u.cell? ⟨W12.heap.size, 0, none⟩ = some (.slice x0.o.a x0.o.l.length x0.o.c) ∧ u.cell? ⟨W12.heap.size, 1, none⟩ = some (.slice x0.t.a x0.t.R.length x0.t.c)) ∧ Below W20.heap.size W20 u)) := Lib.hid fun u hu => box_cells B0_20.out Bx0_20.out u hu
  have s0 := HS.out W20.drew (Below.refl _ _).drew
  have ct := Lib.hid fun u (hu : Below W20.heap.size W20 u) => toFld_law F0 u (A0_20.out.on hu).at hs0
  have ce := Lib.hid fun u (hu : Below W20.heap.size W20 u) (y : Fld) (hy : y.At u) (hky : y.Like F0) => eqFld_same x0 y u (Ix0_20.out.on hu).at hy (hkx0.trans hky.symm) (hs0.like hkx0.symm)
  go_region_held3 (fun u => ((u.cell? ⟨W.heap.size, 0, none⟩ = some (F0.o.val) ∧ u.cell? ⟨W.heap.size, 1, none⟩ = some (F0.t.val) ∧ u.cell? ⟨W12.heap.size, 0, none⟩ = some (.slice x0.o.a x0.o.l.length x0.o.c) ∧ u.cell? ⟨W12.heap.size, 1, none⟩ = some (.slice x0.t.a x0.t.R.length x0.t.c)) ∧ Below W20.heap.size W20 u)) (first | exact s0 | exact keep_reg HS.out (by first | assumption | exact And.right (by assumption)) hb1) (first | (go_at_call 13; refine (show Calls _ _ _ _ _ from ct.out _ (by first | assumption | exact And.right (by assumption))).mono ?_; rintro e u1 ⟨y, rfl, hky, _, hy, hb1⟩) | (go_at_call 16; refine (show Calls _ _ _ _ _ from ce.out _ (by first | assumption | exact And.right (by assumption)) y hy.at hky).mono ?_; rintro e u2 ⟨rfl, hb1⟩))
  refine at_exit (W := W20) (by first | assumption | exact And.right (by assumption)) ?_
  intro W21 hb
  clear HS s0 ct ce
  have A0_21 := Lib.hid (A0_20.out.on hb)
  have A1_21 := Lib.hid (A1_20.out.on hb)
  have A2_21 := Lib.hid (A2_20.out.on hb)
  have A3_21 := Lib.hid (A3_20.out.on hb)
  have A5_21 := Lib.hid (A5_20.out.on hb)
  have A6_21 := Lib.hid (A6_20.out.on hb)
  have A4_21 := Lib.hid (A4_20.out.on hb)
  have B0_21 := Lib.hid (B0_20.out.on hb)
  have Ix0_21 := Lib.hid (Ix0_20.out.on hb)
  have Ox0_21 := Lib.hid (Ox0_20.out.on hb)
  have Bx0_21 := Lib.hid (Bx0_20.out.on hb)
  have Ix1_21 := Lib.hid (Ix1_20.out.on hb)
  have Ox1_21 := Lib.hid (Ox1_20.out.on hb)
  have Ix2_21 := Lib.hid (Ix2_20.out.on hb)
  have Ox2_21 := Lib.hid (Ox2_20.out.on hb)
  have Ix3_21 := Lib.hid (Ix3_20.out.on hb)
  have Ox3_21 := Lib.hid (Ox3_20.out.on hb)
  have Ix4_21 := Lib.hid (Ix4_20.out.on hb)
  have Ox4_21 := Lib.hid (Ox4_20.out.on hb)
  have Ix5_21 := Lib.hid (Ix5_20.out.on hb)
  have Ox5_21 := Lib.hid (Ox5_20.out.on hb)
  have Ix6_21 := Lib.hid (Ix6_20.out.on hb)
  have Ox6_21 := Lib.hid (Ox6_20.out.on hb)
  clear A0_20
  clear A1_20
  clear A2_20
  clear A3_20
  clear A5_20
  clear A6_20
  clear A4_20
  clear B0_20
  clear Ix0_20
  clear Ox0_20
  clear Bx0_20
  clear Ix1_20
  clear Ox1_20
  clear Ix2_20
  clear Ox2_20
  clear Ix3_20
  clear Ox3_20
  clear Ix4_20
  clear Ox4_20
  clear Ix5_20
  clear Ox5_20
  clear Ix6_20
  clear Ox6_20
  have hB_21 := hB_20.trans (hb.mono hB_20.size)
  have hz_21 := hb.size
  clear hB_20 hb
  have B0_c0 := B0_21.out.c0
  have B0_c1 := B0_21.out.c1
  have Bx0_c0 := Bx0_21.out.c0
  have Bx0_c1 := Bx0_21.out.c1
  go_wp2_with fail
  clear B0_c0 B0_c1
  clear Bx0_c0 Bx0_c1
  refine (show Calls _ _ _ _ _ from toInts_row r1 W21 A1_21.out.at hs1).mono ?_
  rintro e W22 ⟨y1, rfl, hk, -, -, hi, hb⟩
  have hky1 := Lib.hid hk
  clear hk
  have A0_22 := Lib.hid (A0_21.out.on hb)
  have A1_22 := Lib.hid (A1_21.out.on hb)
  have A2_22 := Lib.hid (A2_21.out.on hb)
  have A3_22 := Lib.hid (A3_21.out.on hb)
  have A5_22 := Lib.hid (A5_21.out.on hb)
  have A6_22 := Lib.hid (A6_21.out.on hb)
  have A4_22 := Lib.hid (A4_21.out.on hb)
  have B0_22 := Lib.hid (B0_21.out.on hb)
  have Ix0_22 := Lib.hid (Ix0_21.out.on hb)
  have Ox0_22 := Lib.hid (Ox0_21.out.on hb)
  have Bx0_22 := Lib.hid (Bx0_21.out.on hb)
  have Ix1_22 := Lib.hid (Ix1_21.out.on hb)
  have Ox1_22 := Lib.hid (Ox1_21.out.on hb)
  have Ix2_22 := Lib.hid (Ix2_21.out.on hb)
  have Ox2_22 := Lib.hid (Ox2_21.out.on hb)
  have Ix3_22 := Lib.hid (Ix3_21.out.on hb)
  have Ox3_22 := Lib.hid (Ox3_21.out.on hb)
  have Ix4_22 := Lib.hid (Ix4_21.out.on hb)
  have Ox4_22 := Lib.hid (Ox4_21.out.on hb)
  have Ix5_22 := Lib.hid (Ix5_21.out.on hb)
  have Ox5_22 := Lib.hid (Ox5_21.out.on hb)
  have Ix6_22 := Lib.hid (Ix6_21.out.on hb)
  have Ox6_22 := Lib.hid (Ox6_21.out.on hb)
  clear A0_21
  clear A1_21
  clear A2_21
  clear A3_21
  clear A5_21
  clear A6_21
  clear A4_21
  clear B0_21
  clear Ix0_21
  clear Ox0_21
  clear Bx0_21
  clear Ix1_21
  clear Ox1_21
  clear Ix2_21
  clear Ox2_21
  clear Ix3_21
  clear Ox3_21
  clear Ix4_21
  clear Ox4_21
  clear Ix5_21
  clear Ox5_21
  clear Ix6_21
  clear Ox6_21
  have hB_22 := hB_21.trans (hb.mono hB_21.size)
  have hz_22 := hb.size
  clear hB_21 hb
  have hyx1 := eqRow_law x1 y1 W22 Ix1_22.out.at hi.at (hkx1.out.trans hky1.out.symm) (by rw [hkx1.out]; exact hs1)
  clear hi
  have B0_c0 := B0_22.out.c0
  have B0_c1 := B0_22.out.c1
  have Bx0_c0 := Bx0_22.out.c0
  have Bx0_c1 := Bx0_22.out.c1
  go_wp2_with fail
  clear B0_c0 B0_c1
  clear Bx0_c0 Bx0_c1
  refine (show Calls _ _ _ _ _ from hyx1).mono ?_
  rintro e W23 ⟨rfl, hb⟩
  clear hyx1
  have A0_23 := Lib.hid (A0_22.out.on hb)
  have A1_23 := Lib.hid (A1_22.out.on hb)
  have A2_23 := Lib.hid (A2_22.out.on hb)
  have A3_23 := Lib.hid (A3_22.out.on hb)
  have A5_23 := Lib.hid (A5_22.out.on hb)
  have A6_23 := Lib.hid (A6_22.out.on hb)
  have A4_23 := Lib.hid (A4_22.out.on hb)
  have B0_23 := Lib.hid (B0_22.out.on hb)
  have Ix0_23 := Lib.hid (Ix0_22.out.on hb)
  have Ox0_23 := Lib.hid (Ox0_22.out.on hb)
  have Bx0_23 := Lib.hid (Bx0_22.out.on hb)
  have Ix1_23 := Lib.hid (Ix1_22.out.on hb)
  have Ox1_23 := Lib.hid (Ox1_22.out.on hb)
  have Ix2_23 := Lib.hid (Ix2_22.out.on hb)
  have Ox2_23 := Lib.hid (Ox2_22.out.on hb)
  have Ix3_23 := Lib.hid (Ix3_22.out.on hb)
  have Ox3_23 := Lib.hid (Ox3_22.out.on hb)
  have Ix4_23 := Lib.hid (Ix4_22.out.on hb)
  have Ox4_23 := Lib.hid (Ox4_22.out.on hb)
  have Ix5_23 := Lib.hid (Ix5_22.out.on hb)
  have Ox5_23 := Lib.hid (Ox5_22.out.on hb)
  have Ix6_23 := Lib.hid (Ix6_22.out.on hb)
  have Ox6_23 := Lib.hid (Ox6_22.out.on hb)
  clear A0_22
  clear A1_22
  clear A2_22
  clear A3_22
  clear A5_22
  clear A6_22
  clear A4_22
  clear B0_22
  clear Ix0_22
  clear Ox0_22
  clear Bx0_22
  clear Ix1_22
  clear Ox1_22
  clear Ix2_22
  clear Ox2_22
  clear Ix3_22
  clear Ox3_22
  clear Ix4_22
  clear Ox4_22
  clear Ix5_22
  clear Ox5_22
  clear Ix6_22
  clear Ox6_22
  have hB_23 := hB_22.trans (hb.mono hB_22.size)
  have hz_23 := hb.size
  clear hB_22 hb
  have B0_c0 := B0_23.out.c0
  have B0_c1 := B0_23.out.c1
  have Bx0_c0 := Bx0_23.out.c0
  have Bx0_c1 := Bx0_23.out.c1
  go_wp2_with fail
  clear B0_c0 B0_c1
  clear Bx0_c0 Bx0_c1
  refine (show Calls _ _ _ _ _ from toInts_row r2 W23 A2_23.out.at hs2).mono ?_
  rintro e W24 ⟨y2, rfl, hk, -, -, hi, hb⟩
  have hky2 := Lib.hid hk
  clear hk
  have A0_24 := Lib.hid (A0_23.out.on hb)
  have A1_24 := Lib.hid (A1_23.out.on hb)
  have A2_24 := Lib.hid (A2_23.out.on hb)
  have A3_24 := Lib.hid (A3_23.out.on hb)
  have A5_24 := Lib.hid (A5_23.out.on hb)
  have A6_24 := Lib.hid (A6_23.out.on hb)
  have A4_24 := Lib.hid (A4_23.out.on hb)
  have B0_24 := Lib.hid (B0_23.out.on hb)
  have Ix0_24 := Lib.hid (Ix0_23.out.on hb)
  have Ox0_24 := Lib.hid (Ox0_23.out.on hb)
  have Bx0_24 := Lib.hid (Bx0_23.out.on hb)
  have Ix1_24 := Lib.hid (Ix1_23.out.on hb)
  have Ox1_24 := Lib.hid (Ox1_23.out.on hb)
  have Ix2_24 := Lib.hid (Ix2_23.out.on hb)
  have Ox2_24 := Lib.hid (Ox2_23.out.on hb)
  have Ix3_24 := Lib.hid (Ix3_23.out.on hb)
  have Ox3_24 := Lib.hid (Ox3_23.out.on hb)
  have Ix4_24 := Lib.hid (Ix4_23.out.on hb)
  have Ox4_24 := Lib.hid (Ox4_23.out.on hb)
  have Ix5_24 := Lib.hid (Ix5_23.out.on hb)
  have Ox5_24 := Lib.hid (Ox5_23.out.on hb)
  have Ix6_24 := Lib.hid (Ix6_23.out.on hb)
  have Ox6_24 := Lib.hid (Ox6_23.out.on hb)
  clear A0_23
  clear A1_23
  clear A2_23
  clear A3_23
  clear A5_23
  clear A6_23
  clear A4_23
  clear B0_23
  clear Ix0_23
  clear Ox0_23
  clear Bx0_23
  clear Ix1_23
  clear Ox1_23
  clear Ix2_23
  clear Ox2_23
  clear Ix3_23
  clear Ox3_23
  clear Ix4_23
  clear Ox4_23
  clear Ix5_23
  clear Ox5_23
  clear Ix6_23
  clear Ox6_23
  have hB_24 := hB_23.trans (hb.mono hB_23.size)
  have hz_24 := hb.size
  clear hB_23 hb
  have hyx2 := eqRow_law x2 y2 W24 Ix2_24.out.at hi.at (hkx2.out.trans hky2.out.symm) (by rw [hkx2.out]; exact hs2)
  clear hi
  have B0_c0 := B0_24.out.c0
  have B0_c1 := B0_24.out.c1
  have Bx0_c0 := Bx0_24.out.c0
  have Bx0_c1 := Bx0_24.out.c1
  go_wp2_with fail
  clear B0_c0 B0_c1
  clear Bx0_c0 Bx0_c1
  refine (show Calls _ _ _ _ _ from hyx2).mono ?_
  rintro e W25 ⟨rfl, hb⟩
  clear hyx2
  have A0_25 := Lib.hid (A0_24.out.on hb)
  have A1_25 := Lib.hid (A1_24.out.on hb)
  have A2_25 := Lib.hid (A2_24.out.on hb)
  have A3_25 := Lib.hid (A3_24.out.on hb)
  have A5_25 := Lib.hid (A5_24.out.on hb)
  have A6_25 := Lib.hid (A6_24.out.on hb)
  have A4_25 := Lib.hid (A4_24.out.on hb)
  have B0_25 := Lib.hid (B0_24.out.on hb)
  have Ix0_25 := Lib.hid (Ix0_24.out.on hb)
  have Ox0_25 := Lib.hid (Ox0_24.out.on hb)
  have Bx0_25 := Lib.hid (Bx0_24.out.on hb)
  have Ix1_25 := Lib.hid (Ix1_24.out.on hb)
  have Ox1_25 := Lib.hid (Ox1_24.out.on hb)
  have Ix2_25 := Lib.hid (Ix2_24.out.on hb)
  have Ox2_25 := Lib.hid (Ox2_24.out.on hb)
  have Ix3_25 := Lib.hid (Ix3_24.out.on hb)
  have Ox3_25 := Lib.hid (Ox3_24.out.on hb)
  have Ix4_25 := Lib.hid (Ix4_24.out.on hb)
  have Ox4_25 := Lib.hid (Ox4_24.out.on hb)
  have Ix5_25 := Lib.hid (Ix5_24.out.on hb)
  have Ox5_25 := Lib.hid (Ox5_24.out.on hb)
  have Ix6_25 := Lib.hid (Ix6_24.out.on hb)
  have Ox6_25 := Lib.hid (Ox6_24.out.on hb)
  clear A0_24
  clear A1_24
  clear A2_24
  clear A3_24
  clear A5_24
  clear A6_24
  clear A4_24
  clear B0_24
  clear Ix0_24
  clear Ox0_24
  clear Bx0_24
  clear Ix1_24
  clear Ox1_24
  clear Ix2_24
  clear Ox2_24
  clear Ix3_24
  clear Ox3_24
  clear Ix4_24
  clear Ox4_24
  clear Ix5_24
  clear Ox5_24
  clear Ix6_24
  clear Ox6_24
  have hB_25 := hB_24.trans (hb.mono hB_24.size)
  have hz_25 := hb.size
  clear hB_24 hb
  have B0_c0 := B0_25.out.c0
  have B0_c1 := B0_25.out.c1
  have Bx0_c0 := Bx0_25.out.c0
  have Bx0_c1 := Bx0_25.out.c1
  go_wp2_with fail
  clear B0_c0 B0_c1
  clear Bx0_c0 Bx0_c1
  refine (show Calls _ _ _ _ _ from toInts_row r3 W25 A3_25.out.at hs3).mono ?_
  rintro e W26 ⟨y3, rfl, hk, -, -, hi, hb⟩
  have hky3 := Lib.hid hk
  clear hk
  have A0_26 := Lib.hid (A0_25.out.on hb)
  have A1_26 := Lib.hid (A1_25.out.on hb)
  have A2_26 := Lib.hid (A2_25.out.on hb)
  have A3_26 := Lib.hid (A3_25.out.on hb)
  have A5_26 := Lib.hid (A5_25.out.on hb)
  have A6_26 := Lib.hid (A6_25.out.on hb)
  have A4_26 := Lib.hid (A4_25.out.on hb)
  have B0_26 := Lib.hid (B0_25.out.on hb)
  have Ix0_26 := Lib.hid (Ix0_25.out.on hb)
  have Ox0_26 := Lib.hid (Ox0_25.out.on hb)
  have Bx0_26 := Lib.hid (Bx0_25.out.on hb)
  have Ix1_26 := Lib.hid (Ix1_25.out.on hb)
  have Ox1_26 := Lib.hid (Ox1_25.out.on hb)
  have Ix2_26 := Lib.hid (Ix2_25.out.on hb)
  have Ox2_26 := Lib.hid (Ox2_25.out.on hb)
  have Ix3_26 := Lib.hid (Ix3_25.out.on hb)
  have Ox3_26 := Lib.hid (Ox3_25.out.on hb)
  have Ix4_26 := Lib.hid (Ix4_25.out.on hb)
  have Ox4_26 := Lib.hid (Ox4_25.out.on hb)
  have Ix5_26 := Lib.hid (Ix5_25.out.on hb)
  have Ox5_26 := Lib.hid (Ox5_25.out.on hb)
  have Ix6_26 := Lib.hid (Ix6_25.out.on hb)
  have Ox6_26 := Lib.hid (Ox6_25.out.on hb)
  clear A0_25
  clear A1_25
  clear A2_25
  clear A3_25
  clear A5_25
  clear A6_25
  clear A4_25
  clear B0_25
  clear Ix0_25
  clear Ox0_25
  clear Bx0_25
  clear Ix1_25
  clear Ox1_25
  clear Ix2_25
  clear Ox2_25
  clear Ix3_25
  clear Ox3_25
  clear Ix4_25
  clear Ox4_25
  clear Ix5_25
  clear Ox5_25
  clear Ix6_25
  clear Ox6_25
  have hB_26 := hB_25.trans (hb.mono hB_25.size)
  have hz_26 := hb.size
  clear hB_25 hb
  have hyx3 := eqRow_law x3 y3 W26 Ix3_26.out.at hi.at (hkx3.out.trans hky3.out.symm) (by rw [hkx3.out]; exact hs3)
  clear hi
  have B0_c0 := B0_26.out.c0
  have B0_c1 := B0_26.out.c1
  have Bx0_c0 := Bx0_26.out.c0
  have Bx0_c1 := Bx0_26.out.c1
  go_wp2_with fail
  clear B0_c0 B0_c1
  clear Bx0_c0 Bx0_c1
  refine (show Calls _ _ _ _ _ from hyx3).mono ?_
  rintro e W27 ⟨rfl, hb⟩
  clear hyx3
  have A0_27 := Lib.hid (A0_26.out.on hb)
  have A1_27 := Lib.hid (A1_26.out.on hb)
  have A2_27 := Lib.hid (A2_26.out.on hb)
  have A3_27 := Lib.hid (A3_26.out.on hb)
  have A5_27 := Lib.hid (A5_26.out.on hb)
  have A6_27 := Lib.hid (A6_26.out.on hb)
  have A4_27 := Lib.hid (A4_26.out.on hb)
  have B0_27 := Lib.hid (B0_26.out.on hb)
  have Ix0_27 := Lib.hid (Ix0_26.out.on hb)
  have Ox0_27 := Lib.hid (Ox0_26.out.on hb)
  have Bx0_27 := Lib.hid (Bx0_26.out.on hb)
  have Ix1_27 := Lib.hid (Ix1_26.out.on hb)
  have Ox1_27 := Lib.hid (Ox1_26.out.on hb)
  have Ix2_27 := Lib.hid (Ix2_26.out.on hb)
  have Ox2_27 := Lib.hid (Ox2_26.out.on hb)
  have Ix3_27 := Lib.hid (Ix3_26.out.on hb)
  have Ox3_27 := Lib.hid (Ox3_26.out.on hb)
  have Ix4_27 := Lib.hid (Ix4_26.out.on hb)
  have Ox4_27 := Lib.hid (Ox4_26.out.on hb)
  have Ix5_27 := Lib.hid (Ix5_26.out.on hb)
  have Ox5_27 := Lib.hid (Ox5_26.out.on hb)
  have Ix6_27 := Lib.hid (Ix6_26.out.on hb)
  have Ox6_27 := Lib.hid (Ox6_26.out.on hb)
  clear A0_26
  clear A1_26
  clear A2_26
  clear A3_26
  clear A5_26
  clear A6_26
  clear A4_26
  clear B0_26
  clear Ix0_26
  clear Ox0_26
  clear Bx0_26
  clear Ix1_26
  clear Ox1_26
  clear Ix2_26
  clear Ox2_26
  clear Ix3_26
  clear Ox3_26
  clear Ix4_26
  clear Ox4_26
  clear Ix5_26
  clear Ox5_26
  clear Ix6_26
  clear Ox6_26
  have hB_27 := hB_26.trans (hb.mono hB_26.size)
  have hz_27 := hb.size
  clear hB_26 hb
  have B0_c0 := B0_27.out.c0
  have B0_c1 := B0_27.out.c1
  have Bx0_c0 := Bx0_27.out.c0
  have Bx0_c1 := Bx0_27.out.c1
  go_wp2_with fail
  clear B0_c0 B0_c1
  clear Bx0_c0 Bx0_c1
  refine (show Calls _ _ _ _ _ from toTab_law T4 W27 A4_27.out.at hs4).mono ?_
  rintro e W28 ⟨y4, rfl, hk, -, hi, hb⟩
  have hky4 := Lib.hid hk
  clear hk
  have A0_28 := Lib.hid (A0_27.out.on hb)
  have A1_28 := Lib.hid (A1_27.out.on hb)
  have A2_28 := Lib.hid (A2_27.out.on hb)
  have A3_28 := Lib.hid (A3_27.out.on hb)
  have A5_28 := Lib.hid (A5_27.out.on hb)
  have A6_28 := Lib.hid (A6_27.out.on hb)
  have A4_28 := Lib.hid (A4_27.out.on hb)
  have B0_28 := Lib.hid (B0_27.out.on hb)
  have Ix0_28 := Lib.hid (Ix0_27.out.on hb)
  have Ox0_28 := Lib.hid (Ox0_27.out.on hb)
  have Bx0_28 := Lib.hid (Bx0_27.out.on hb)
  have Ix1_28 := Lib.hid (Ix1_27.out.on hb)
  have Ox1_28 := Lib.hid (Ox1_27.out.on hb)
  have Ix2_28 := Lib.hid (Ix2_27.out.on hb)
  have Ox2_28 := Lib.hid (Ox2_27.out.on hb)
  have Ix3_28 := Lib.hid (Ix3_27.out.on hb)
  have Ox3_28 := Lib.hid (Ox3_27.out.on hb)
  have Ix4_28 := Lib.hid (Ix4_27.out.on hb)
  have Ox4_28 := Lib.hid (Ox4_27.out.on hb)
  have Ix5_28 := Lib.hid (Ix5_27.out.on hb)
  have Ox5_28 := Lib.hid (Ox5_27.out.on hb)
  have Ix6_28 := Lib.hid (Ix6_27.out.on hb)
  have Ox6_28 := Lib.hid (Ox6_27.out.on hb)
  clear A0_27
  clear A1_27
  clear A2_27
  clear A3_27
  clear A5_27
  clear A6_27
  clear A4_27
  clear B0_27
  clear Ix0_27
  clear Ox0_27
  clear Bx0_27
  clear Ix1_27
  clear Ox1_27
  clear Ix2_27
  clear Ox2_27
  clear Ix3_27
  clear Ox3_27
  clear Ix4_27
  clear Ox4_27
  clear Ix5_27
  clear Ox5_27
  clear Ix6_27
  clear Ox6_27
  have hB_28 := hB_27.trans (hb.mono hB_27.size)
  have hz_28 := hb.size
  clear hB_27 hb
  have hyx4 := eqTab_law x4 y4 W28 Ix4_28.out.at hi.at (hkx4.out.trans hky4.out.symm) (Tab.Small.rows hs4 hkx4.out).1 (Tab.Small.rows hs4 hkx4.out).2.2
  clear hi
  have B0_c0 := B0_28.out.c0
  have B0_c1 := B0_28.out.c1
  have Bx0_c0 := Bx0_28.out.c0
  have Bx0_c1 := Bx0_28.out.c1
  go_wp2_with fail
  clear B0_c0 B0_c1
  clear Bx0_c0 Bx0_c1
  refine (show Calls _ _ _ _ _ from hyx4).mono ?_
  rintro e W29 ⟨rfl, hb⟩
  clear hyx4
  have A0_29 := Lib.hid (A0_28.out.on hb)
  have A1_29 := Lib.hid (A1_28.out.on hb)
  have A2_29 := Lib.hid (A2_28.out.on hb)
  have A3_29 := Lib.hid (A3_28.out.on hb)
  have A5_29 := Lib.hid (A5_28.out.on hb)
  have A6_29 := Lib.hid (A6_28.out.on hb)
  have A4_29 := Lib.hid (A4_28.out.on hb)
  have B0_29 := Lib.hid (B0_28.out.on hb)
  have Ix0_29 := Lib.hid (Ix0_28.out.on hb)
  have Ox0_29 := Lib.hid (Ox0_28.out.on hb)
  have Bx0_29 := Lib.hid (Bx0_28.out.on hb)
  have Ix1_29 := Lib.hid (Ix1_28.out.on hb)
  have Ox1_29 := Lib.hid (Ox1_28.out.on hb)
  have Ix2_29 := Lib.hid (Ix2_28.out.on hb)
  have Ox2_29 := Lib.hid (Ox2_28.out.on hb)
  have Ix3_29 := Lib.hid (Ix3_28.out.on hb)
  have Ox3_29 := Lib.hid (Ox3_28.out.on hb)
  have Ix4_29 := Lib.hid (Ix4_28.out.on hb)
  have Ox4_29 := Lib.hid (Ox4_28.out.on hb)
  have Ix5_29 := Lib.hid (Ix5_28.out.on hb)
  have Ox5_29 := Lib.hid (Ox5_28.out.on hb)
  have Ix6_29 := Lib.hid (Ix6_28.out.on hb)
  have Ox6_29 := Lib.hid (Ox6_28.out.on hb)
  clear A0_28
  clear A1_28
  clear A2_28
  clear A3_28
  clear A5_28
  clear A6_28
  clear A4_28
  clear B0_28
  clear Ix0_28
  clear Ox0_28
  clear Bx0_28
  clear Ix1_28
  clear Ox1_28
  clear Ix2_28
  clear Ox2_28
  clear Ix3_28
  clear Ox3_28
  clear Ix4_28
  clear Ox4_28
  clear Ix5_28
  clear Ox5_28
  clear Ix6_28
  clear Ox6_28
  have hB_29 := hB_28.trans (hb.mono hB_28.size)
  have hz_29 := hb.size
  clear hB_28 hb
  have B0_c0 := B0_29.out.c0
  have B0_c1 := B0_29.out.c1
  have Bx0_c0 := Bx0_29.out.c0
  have Bx0_c1 := Bx0_29.out.c1
  go_wp2_with fail
  clear B0_c0 B0_c1
  clear Bx0_c0 Bx0_c1
  refine (show Calls _ _ _ _ _ from toInts_row r5 W29 A5_29.out.at hs5).mono ?_
  rintro e W30 ⟨y5, rfl, hk, -, -, hi, hb⟩
  have hky5 := Lib.hid hk
  clear hk
  have A0_30 := Lib.hid (A0_29.out.on hb)
  have A1_30 := Lib.hid (A1_29.out.on hb)
  have A2_30 := Lib.hid (A2_29.out.on hb)
  have A3_30 := Lib.hid (A3_29.out.on hb)
  have A5_30 := Lib.hid (A5_29.out.on hb)
  have A6_30 := Lib.hid (A6_29.out.on hb)
  have A4_30 := Lib.hid (A4_29.out.on hb)
  have B0_30 := Lib.hid (B0_29.out.on hb)
  have Ix0_30 := Lib.hid (Ix0_29.out.on hb)
  have Ox0_30 := Lib.hid (Ox0_29.out.on hb)
  have Bx0_30 := Lib.hid (Bx0_29.out.on hb)
  have Ix1_30 := Lib.hid (Ix1_29.out.on hb)
  have Ox1_30 := Lib.hid (Ox1_29.out.on hb)
  have Ix2_30 := Lib.hid (Ix2_29.out.on hb)
  have Ox2_30 := Lib.hid (Ox2_29.out.on hb)
  have Ix3_30 := Lib.hid (Ix3_29.out.on hb)
  have Ox3_30 := Lib.hid (Ox3_29.out.on hb)
  have Ix4_30 := Lib.hid (Ix4_29.out.on hb)
  have Ox4_30 := Lib.hid (Ox4_29.out.on hb)
  have Ix5_30 := Lib.hid (Ix5_29.out.on hb)
  have Ox5_30 := Lib.hid (Ox5_29.out.on hb)
  have Ix6_30 := Lib.hid (Ix6_29.out.on hb)
  have Ox6_30 := Lib.hid (Ox6_29.out.on hb)
  clear A0_29
  clear A1_29
  clear A2_29
  clear A3_29
  clear A5_29
  clear A6_29
  clear A4_29
  clear B0_29
  clear Ix0_29
  clear Ox0_29
  clear Bx0_29
  clear Ix1_29
  clear Ox1_29
  clear Ix2_29
  clear Ox2_29
  clear Ix3_29
  clear Ox3_29
  clear Ix4_29
  clear Ox4_29
  clear Ix5_29
  clear Ox5_29
  clear Ix6_29
  clear Ox6_29
  have hB_30 := hB_29.trans (hb.mono hB_29.size)
  have hz_30 := hb.size
  clear hB_29 hb
  have hyx5 := eqRow_law x5 y5 W30 Ix5_30.out.at hi.at (hkx5.out.trans hky5.out.symm) (by rw [hkx5.out]; exact hs5)
  clear hi
  have B0_c0 := B0_30.out.c0
  have B0_c1 := B0_30.out.c1
  have Bx0_c0 := Bx0_30.out.c0
  have Bx0_c1 := Bx0_30.out.c1
  go_wp2_with fail
  clear B0_c0 B0_c1
  clear Bx0_c0 Bx0_c1
  refine (show Calls _ _ _ _ _ from hyx5).mono ?_
  rintro e W31 ⟨rfl, hb⟩
  clear hyx5
  have A0_31 := Lib.hid (A0_30.out.on hb)
  have A1_31 := Lib.hid (A1_30.out.on hb)
  have A2_31 := Lib.hid (A2_30.out.on hb)
  have A3_31 := Lib.hid (A3_30.out.on hb)
  have A5_31 := Lib.hid (A5_30.out.on hb)
  have A6_31 := Lib.hid (A6_30.out.on hb)
  have A4_31 := Lib.hid (A4_30.out.on hb)
  have B0_31 := Lib.hid (B0_30.out.on hb)
  have Ix0_31 := Lib.hid (Ix0_30.out.on hb)
  have Ox0_31 := Lib.hid (Ox0_30.out.on hb)
  have Bx0_31 := Lib.hid (Bx0_30.out.on hb)
  have Ix1_31 := Lib.hid (Ix1_30.out.on hb)
  have Ox1_31 := Lib.hid (Ox1_30.out.on hb)
  have Ix2_31 := Lib.hid (Ix2_30.out.on hb)
  have Ox2_31 := Lib.hid (Ox2_30.out.on hb)
  have Ix3_31 := Lib.hid (Ix3_30.out.on hb)
  have Ox3_31 := Lib.hid (Ox3_30.out.on hb)
  have Ix4_31 := Lib.hid (Ix4_30.out.on hb)
  have Ox4_31 := Lib.hid (Ox4_30.out.on hb)
  have Ix5_31 := Lib.hid (Ix5_30.out.on hb)
  have Ox5_31 := Lib.hid (Ox5_30.out.on hb)
  have Ix6_31 := Lib.hid (Ix6_30.out.on hb)
  have Ox6_31 := Lib.hid (Ox6_30.out.on hb)
  clear A0_30
  clear A1_30
  clear A2_30
  clear A3_30
  clear A5_30
  clear A6_30
  clear A4_30
  clear B0_30
  clear Ix0_30
  clear Ox0_30
  clear Bx0_30
  clear Ix1_30
  clear Ox1_30
  clear Ix2_30
  clear Ox2_30
  clear Ix3_30
  clear Ox3_30
  clear Ix4_30
  clear Ox4_30
  clear Ix5_30
  clear Ox5_30
  clear Ix6_30
  clear Ox6_30
  have hB_31 := hB_30.trans (hb.mono hB_30.size)
  have hz_31 := hb.size
  clear hB_30 hb
  have B0_c0 := B0_31.out.c0
  have B0_c1 := B0_31.out.c1
  have Bx0_c0 := Bx0_31.out.c0
  have Bx0_c1 := Bx0_31.out.c1
  go_wp2_with fail
  clear B0_c0 B0_c1
  clear Bx0_c0 Bx0_c1
  refine (show Calls _ _ _ _ _ from toInts_row r6 W31 A6_31.out.at hs6).mono ?_
  rintro e W32 ⟨y6, rfl, hk, -, -, hi, hb⟩
  have hky6 := Lib.hid hk
  clear hk
  have A0_32 := Lib.hid (A0_31.out.on hb)
  have A1_32 := Lib.hid (A1_31.out.on hb)
  have A2_32 := Lib.hid (A2_31.out.on hb)
  have A3_32 := Lib.hid (A3_31.out.on hb)
  have A5_32 := Lib.hid (A5_31.out.on hb)
  have A6_32 := Lib.hid (A6_31.out.on hb)
  have A4_32 := Lib.hid (A4_31.out.on hb)
  have B0_32 := Lib.hid (B0_31.out.on hb)
  have Ix0_32 := Lib.hid (Ix0_31.out.on hb)
  have Ox0_32 := Lib.hid (Ox0_31.out.on hb)
  have Bx0_32 := Lib.hid (Bx0_31.out.on hb)
  have Ix1_32 := Lib.hid (Ix1_31.out.on hb)
  have Ox1_32 := Lib.hid (Ox1_31.out.on hb)
  have Ix2_32 := Lib.hid (Ix2_31.out.on hb)
  have Ox2_32 := Lib.hid (Ox2_31.out.on hb)
  have Ix3_32 := Lib.hid (Ix3_31.out.on hb)
  have Ox3_32 := Lib.hid (Ox3_31.out.on hb)
  have Ix4_32 := Lib.hid (Ix4_31.out.on hb)
  have Ox4_32 := Lib.hid (Ox4_31.out.on hb)
  have Ix5_32 := Lib.hid (Ix5_31.out.on hb)
  have Ox5_32 := Lib.hid (Ox5_31.out.on hb)
  have Ix6_32 := Lib.hid (Ix6_31.out.on hb)
  have Ox6_32 := Lib.hid (Ox6_31.out.on hb)
  clear A0_31
  clear A1_31
  clear A2_31
  clear A3_31
  clear A5_31
  clear A6_31
  clear A4_31
  clear B0_31
  clear Ix0_31
  clear Ox0_31
  clear Bx0_31
  clear Ix1_31
  clear Ox1_31
  clear Ix2_31
  clear Ox2_31
  clear Ix3_31
  clear Ox3_31
  clear Ix4_31
  clear Ox4_31
  clear Ix5_31
  clear Ox5_31
  clear Ix6_31
  clear Ox6_31
  have hB_32 := hB_31.trans (hb.mono hB_31.size)
  have hz_32 := hb.size
  clear hB_31 hb
  have hyx6 := eqRow_law x6 y6 W32 Ix6_32.out.at hi.at (hkx6.out.trans hky6.out.symm) (by rw [hkx6.out]; exact hs6)
  clear hi
  have B0_c0 := B0_32.out.c0
  have B0_c1 := B0_32.out.c1
  have Bx0_c0 := Bx0_32.out.c0
  have Bx0_c1 := Bx0_32.out.c1
  go_wp2_with fail
  clear B0_c0 B0_c1
  clear Bx0_c0 Bx0_c1
  refine (show Calls _ _ _ _ _ from hyx6).mono ?_
  rintro e W33 ⟨rfl, hb⟩
  clear hyx6
  have A0_33 := Lib.hid (A0_32.out.on hb)
  have A1_33 := Lib.hid (A1_32.out.on hb)
  have A2_33 := Lib.hid (A2_32.out.on hb)
  have A3_33 := Lib.hid (A3_32.out.on hb)
  have A5_33 := Lib.hid (A5_32.out.on hb)
  have A6_33 := Lib.hid (A6_32.out.on hb)
  have A4_33 := Lib.hid (A4_32.out.on hb)
  have B0_33 := Lib.hid (B0_32.out.on hb)
  have Ix0_33 := Lib.hid (Ix0_32.out.on hb)
  have Ox0_33 := Lib.hid (Ox0_32.out.on hb)
  have Bx0_33 := Lib.hid (Bx0_32.out.on hb)
  have Ix1_33 := Lib.hid (Ix1_32.out.on hb)
  have Ox1_33 := Lib.hid (Ox1_32.out.on hb)
  have Ix2_33 := Lib.hid (Ix2_32.out.on hb)
  have Ox2_33 := Lib.hid (Ox2_32.out.on hb)
  have Ix3_33 := Lib.hid (Ix3_32.out.on hb)
  have Ox3_33 := Lib.hid (Ox3_32.out.on hb)
  have Ix4_33 := Lib.hid (Ix4_32.out.on hb)
  have Ox4_33 := Lib.hid (Ox4_32.out.on hb)
  have Ix5_33 := Lib.hid (Ix5_32.out.on hb)
  have Ox5_33 := Lib.hid (Ox5_32.out.on hb)
  have Ix6_33 := Lib.hid (Ix6_32.out.on hb)
  have Ox6_33 := Lib.hid (Ox6_32.out.on hb)
  clear A0_32
  clear A1_32
  clear A2_32
  clear A3_32
  clear A5_32
  clear A6_32
  clear A4_32
  clear B0_32
  clear Ix0_32
  clear Ox0_32
  clear Bx0_32
  clear Ix1_32
  clear Ox1_32
  clear Ix2_32
  clear Ox2_32
  clear Ix3_32
  clear Ox3_32
  clear Ix4_32
  clear Ox4_32
  clear Ix5_32
  clear Ox5_32
  clear Ix6_32
  clear Ox6_32
  have hB_33 := hB_32.trans (hb.mono hB_32.size)
  have hz_33 := hb.size
  clear hB_32 hb
  have B0_c0 := B0_33.out.c0
  have B0_c1 := B0_33.out.c1
  have Bx0_c0 := Bx0_33.out.c0
  have Bx0_c1 := Bx0_33.out.c1
  go_wp2_with fail
  clear B0_c0 B0_c1
  clear Bx0_c0 Bx0_c1
  go_ret
  exact ⟨rfl, hB_33⟩

/- The row's step. -/
set_option maxRecDepth 100000 in
set_option maxHeartbeats 4000000 in
theorem lifted (os : Os) (started : os.Started) (H : Type) (enc : TypeId × Value → H) :
    ReturnsInHanded {} Try.checked os 8 .any (Rows.fnExactIsFlowProofSpec.pre6 enc Try.prog Try.f8 Rows.fnExactIsFlowProofRow.domain false) (Rows.fnExactIsFlowProofSpec.post enc Try.prog Try.f8 false true false false) := by
  refine returnsInHanded_of_change_shaped (C := Try.checked) own started (by kernel_rfl) Try.func8
    (ChangeSpec.witness6 (enc := enc) (C := Try.checked) false ⟨#[], #[.agg #[.slice none 0 0, .slice none 0 0], .slice none 0 0, .slice none 0 0, .slice none 0 0, .slice none 0 0, .slice none 0 0, .slice none 0 0], []⟩ 8 (by kernel_rfl) (by kernel_rfl) (by kernel_rfl) (by kernel_rfl)) ?_
  intro W base args ds gs before hval0 hW hcnd hsz0 hShape _
  have hval : ∀ (j : Nat) t v, Try.f8.params[j]? = some t → args[j]? = some v → Value.okWide Try.prog W .any base t v := hval0
  have hW' := hW
  obtain ⟨p, q, hA0, hV, rfl, hfz, hnd⟩ := hW
  have hA : DataW.TrodAll enc Try.prog W 0 (fun _ => true) true Try.f8.params.toList args.toList ds p := hA0
  rw [Try.params8] at hA hval
  obtain ⟨v0, vs0, d0, ds0, p0, q0, hargs, rfl, rfl, h0, more0⟩ := trodAll_cons hA
  obtain ⟨v1, vs1, d1, ds1, p1, q1, rfl, rfl, rfl, h1, more1⟩ := trodAll_cons more0
  obtain ⟨v2, vs2, d2, ds2, p2, q2, rfl, rfl, rfl, h2, more2⟩ := trodAll_cons more1
  obtain ⟨v3, vs3, d3, ds3, p3, q3, rfl, rfl, rfl, h3, more3⟩ := trodAll_cons more2
  obtain ⟨v4, vs4, d4, ds4, p4, q4, rfl, rfl, rfl, h4, more4⟩ := trodAll_cons more3
  obtain ⟨v5, vs5, d5, ds5, p5, q5, rfl, rfl, rfl, h5, more5⟩ := trodAll_cons more4
  obtain ⟨v6, vs6, d6, ds6, p6, q6, rfl, rfl, rfl, h6, more6⟩ := trodAll_cons more5
  obtain ⟨rfl, rfl, rfl⟩ := trodAll_nil more6
  obtain rfl : args = #[v0, v1, v2, v3, v4, v5, v6] := by cases args; simp_all
  obtain ⟨rfl, rfl⟩ := trodVars_none hV
  have k0 := h0
  have lt0 : ∀ x ∈ p0, x.block < W.heap.size := by obtain ⟨m, hm⟩ := k0; exact DataW.trod_lt m _ _ _ hm
  obtain ⟨F0, rfl, w0⟩ := open_fld (P := Try.prog) (W := W) Try.underlying25 (by kernel_rfl) (by kernel_rfl) rfl rfl Try.underlying22 Try.underlying3 (by kernel_rfl) Try.underlying23 Try.underlying22 (by kernel_rfl) (hval 0 25 v0 rfl rfl) h0
  have k1 := h1
  have lt1 : ∀ x ∈ p1, x.block < W.heap.size := by obtain ⟨m, hm⟩ := k1; exact DataW.trod_lt m _ _ _ hm
  obtain ⟨r1, rfl, w1⟩ := open_row (P := Try.prog) (W := W) Try.underlying22 Try.underlying3 (by kernel_rfl) (hval 1 22 v1 rfl rfl) h1
  have k2 := h2
  have lt2 : ∀ x ∈ p2, x.block < W.heap.size := by obtain ⟨m, hm⟩ := k2; exact DataW.trod_lt m _ _ _ hm
  obtain ⟨r2, rfl, w2⟩ := open_row (P := Try.prog) (W := W) Try.underlying22 Try.underlying3 (by kernel_rfl) (hval 2 22 v2 rfl rfl) h2
  have k3 := h3
  have lt3 : ∀ x ∈ p3, x.block < W.heap.size := by obtain ⟨m, hm⟩ := k3; exact DataW.trod_lt m _ _ _ hm
  obtain ⟨r3, rfl, w3⟩ := open_row (P := Try.prog) (W := W) Try.underlying22 Try.underlying3 (by kernel_rfl) (hval 3 22 v3 rfl rfl) h3
  have k4 := h4
  have lt4 : ∀ x ∈ p4, x.block < W.heap.size := by obtain ⟨m, hm⟩ := k4; exact DataW.trod_lt m _ _ _ hm
  obtain ⟨T4, rfl, w4⟩ := open_tab (P := Try.prog) (W := W) Try.underlying23 Try.underlying22 Try.underlying3 (by kernel_rfl) (by kernel_rfl) (hval 4 23 v4 rfl rfl) h4
  have k5 := h5
  have lt5 : ∀ x ∈ p5, x.block < W.heap.size := by obtain ⟨m, hm⟩ := k5; exact DataW.trod_lt m _ _ _ hm
  obtain ⟨r5, rfl, w5⟩ := open_row (P := Try.prog) (W := W) Try.underlying22 Try.underlying3 (by kernel_rfl) (hval 5 22 v5 rfl rfl) h5
  have k6 := h6
  have lt6 : ∀ x ∈ p6, x.block < W.heap.size := by obtain ⟨m, hm⟩ := k6; exact DataW.trod_lt m _ _ _ hm
  obtain ⟨r6, rfl, w6⟩ := open_row (P := Try.prog) (W := W) Try.underlying22 Try.underlying3 (by kernel_rfl) (hval 6 22 v6 rfl rfl) h6
  clear hA0 hval0
  refine (walk W F0 w0 r1 w1 r2 w2 r3 w3 T4 w4 r5 w5 r6 w6 ).mono fun e W' ⟨he, bel⟩ => ?_
  subst he
  exact ⟨_, rfl, _, _, _, [], _, [], hW', trodAll_mk1 (shut_bool Try.underlying4 _), (trodAll_cons_mk (Below.trod laidOut (by kernel_rfl) (of_decide_eq_true (by kernel_rfl)) k0 bel lt0) (trodAll_cons_mk (Below.trod laidOut (by kernel_rfl) (of_decide_eq_true (by kernel_rfl)) k1 bel lt1) (trodAll_cons_mk (Below.trod laidOut (by kernel_rfl) (of_decide_eq_true (by kernel_rfl)) k2 bel lt2) (trodAll_cons_mk (Below.trod laidOut (by kernel_rfl) (of_decide_eq_true (by kernel_rfl)) k3 bel lt3) (trodAll_cons_mk (Below.trod laidOut (by kernel_rfl) (of_decide_eq_true (by kernel_rfl)) k4 bel lt4) (trodAll_cons_mk (Below.trod laidOut (by kernel_rfl) (of_decide_eq_true (by kernel_rfl)) k5 bel lt5) (trodAll_cons_mk (Below.trod laidOut (by kernel_rfl) (of_decide_eq_true (by kernel_rfl)) k6 bel lt6) trodAll_mk0))))))), rfl, bel.frame _, fun h => by cases h⟩

theorem over : Rows.fnExactIsFlowProofRow.holds Try.pinned (OpenSpec.ofChange Rows.fnExactIsFlowProofSpec) :=
  OpenClaim.holds_of_wide 8 Try.f8 rfl rfl rfl rfl rfl rfl rfl ⟨rfl, rfl, rfl, rfl, rfl⟩ rfl rfl rfl rfl rfl (by kernel_rfl) Try.func8 (by kernel_rfl)
    (of_decide_eq_true (by kernel_rfl)) (by unfold Func.isWrapper; first | (rw [if_pos (by decide +kernel)]; kernel_rfl) | (rw [if_neg (by decide +kernel)]; exact ⟨rfl, rfl⟩))
    (fun os started H enc _ => lifted os started H enc)

/-- The statement. -/
theorem proved : Rows.FnExactIsFlowProofSaid :=
  over
#print axioms proved
end Go.Proofs.Ytehmjmknegnojaa.fnExactIsFlowProof
