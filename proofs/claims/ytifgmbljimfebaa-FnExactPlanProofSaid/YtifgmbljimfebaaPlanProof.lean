/- Proved here: called with any arguments, the law FnExactPlanProof returns true and the arguments read afterwards as they read before: impl.PlanProof answers as its model does, whether a table of potentials proves a plan: its potentials are safe and the first one is the plan's own cost.
   Conditions: none but the statement's own (the arguments can be read as data). -/
import Derived.Test.YtifgmbljimfebaaRows
import Derived.WalkKit
import Derived.ProofKit
import Derived.OpenShut
import Derived.ShutString
import Derived.Below
import Derived.ChangeOld
import Derived.HandedShaped
import Derived.Test.YtifgmbljimfebaaOpen
import Derived.Test.YtifgmbljimfebaaPairPlanProof
namespace Go.Proofs.Ytifgmbljimfebaa.fnExactPlanProof
open Go.ChangeShapes Go.WideShapes Go.ChangeAt Go.RowKit
open Go.ChangeMaps (open_string shut_string)
set_option linter.unusedVariables false

theorem own : ownKnob Try.prog.godebug = none := by kernel_rfl
theorem laidOut : laidOutB Try.prog = true := by kernel_rfl
/- The walk of the law's body. -/
set_option maxRecDepth 100000 in
set_option maxHeartbeats 1500000 in
theorem walk (W : World) (F0 : Sea) (w0 : F0.At W) (T1 : Tab) (w1 : T1.At W) (T2 : Tab) (w2 : T2.At W)  :
    Calls Try.prog 4 #[F0.val, T1.val, T2.val] W fun e w' => e = .returned (.bool true) ∧ Below W.heap.size W w' := by
  have hB_0 := Below.refl W.heap.size W
  have A0_0 := Lib.hid w0.in
  clear w0
  have A1_0 := Lib.hid w1.in
  clear w1
  have A2_0 := Lib.hid w2.in
  clear w2
  show Calls _ _ #[.agg #[.slice F0.o.a F0.o.l.length F0.o.c, .slice F0.x.a F0.x.l.length F0.x.c, .slice F0.k.a F0.k.l.length F0.k.c, .slice F0.r.a F0.r.T.length F0.r.c], .slice T1.a T1.R.length T1.c, .slice T2.a T2.R.length T2.c] _ _
  go_enter Try.func4, Try.ntmps4
  go_wp2_with fail
  obtain ⟨W1, hW⟩ : ∃ u, u = (W.alloc (Obj.cells #[.slice F0.o.a F0.o.l.length F0.o.c, .slice F0.x.a F0.x.l.length F0.x.c, .slice F0.k.a F0.k.l.length F0.k.c, .slice F0.r.a F0.r.T.length F0.r.c] 25)) := ⟨_, rfl⟩
  rw [show (W.alloc (Obj.cells #[.slice F0.o.a F0.o.l.length F0.o.c, .slice F0.x.a F0.x.l.length F0.x.c, .slice F0.k.a F0.k.l.length F0.k.c, .slice F0.r.a F0.r.T.length F0.r.c] 25)) = W1 from hW.symm]
  have hb : Below W.heap.size W W1 := by rw [hW]; exact below_alloc _ _
  have hbx : Box4 W1 W.heap.size (.slice F0.o.a F0.o.l.length F0.o.c) (.slice F0.x.a F0.x.l.length F0.x.c) (.slice F0.k.a F0.k.l.length F0.k.c) (.slice F0.r.a F0.r.T.length F0.r.c) 25 := by rw [hW]; exact Box4.made _ _ _ _ _ _ 
  have hsx : W1.heap.size = W.heap.size + 1 := by rw [hW]; exact size_alloc _ _
  clear hW
  have A0_1 := Lib.hid (A0_0.out.on hb)
  have A1_1 := Lib.hid (A1_0.out.on hb)
  have A2_1 := Lib.hid (A2_0.out.on hb)
  clear A0_0
  clear A1_0
  clear A2_0
  have hB_1 := hB_0.trans (hb.mono hB_0.size)
  have hz_1 := hb.size
  clear hB_0 hb
  have B0_1 := Lib.hid hbx
  clear hbx
  have hzx_1 := Nat.le_of_eq hsx
  have hzy_1 := Nat.le_of_eq hsx.symm
  clear hsx
  refine (show Calls _ _ _ _ _ from szSea_law F0 1048576 W1 A0_1.out.at (by omega) (by omega)).mono ?_
  rintro e W2 ⟨⟨left0, rfl, hl0, hm0⟩, hb⟩
  have A0_2 := Lib.hid (A0_1.out.on hb)
  have A1_2 := Lib.hid (A1_1.out.on hb)
  have A2_2 := Lib.hid (A2_1.out.on hb)
  have B0_2 := Lib.hid (B0_1.out.on hb)
  clear A0_1
  clear A1_1
  clear A2_1
  clear B0_1
  have hB_2 := hB_1.trans (hb.mono hB_1.size)
  have hz_2 := hb.size
  clear hB_1 hb
  by_cases hng0 : left0 < 0
  · go_wp2
    go_ret
    exact ⟨rfl, hB_2⟩
  have hs0 : F0.Small := by unfold Sea.Small; have := hl0 (by omega); omega
  have hle0 : left0 ≤ 1048576 := hm0
  have B0_c0 := B0_2.out.c0
  have B0_c1 := B0_2.out.c1
  have B0_c2 := B0_2.out.c2
  have B0_c3 := B0_2.out.c3
  go_wp2_with fail
  clear B0_c0 B0_c1 B0_c2 B0_c3
  refine (show Calls _ _ _ _ _ from szTab_law T1 left0 W2 A1_2.out.at (by omega) (by omega)).mono ?_
  rintro e W3 ⟨⟨left1, rfl, hl1, hm1⟩, hb⟩
  have A0_3 := Lib.hid (A0_2.out.on hb)
  have A1_3 := Lib.hid (A1_2.out.on hb)
  have A2_3 := Lib.hid (A2_2.out.on hb)
  have B0_3 := Lib.hid (B0_2.out.on hb)
  clear A0_2
  clear A1_2
  clear A2_2
  clear B0_2
  have hB_3 := hB_2.trans (hb.mono hB_2.size)
  have hz_3 := hb.size
  clear hB_2 hb
  by_cases hng1 : left1 < 0
  · go_wp2
    go_ret
    exact ⟨rfl, hB_3⟩
  have hs1 : T1.Small := by unfold Tab.Small; have := hl1 (by omega); omega
  have hle1 : left1 ≤ 1048576 := hm1
  have B0_c0 := B0_3.out.c0
  have B0_c1 := B0_3.out.c1
  have B0_c2 := B0_3.out.c2
  have B0_c3 := B0_3.out.c3
  go_wp2_with fail
  clear B0_c0 B0_c1 B0_c2 B0_c3
  refine (show Calls _ _ _ _ _ from szTab_law T2 left1 W3 A2_3.out.at (by omega) (by omega)).mono ?_
  rintro e W4 ⟨⟨left2, rfl, hl2, hm2⟩, hb⟩
  have A0_4 := Lib.hid (A0_3.out.on hb)
  have A1_4 := Lib.hid (A1_3.out.on hb)
  have A2_4 := Lib.hid (A2_3.out.on hb)
  have B0_4 := Lib.hid (B0_3.out.on hb)
  clear A0_3
  clear A1_3
  clear A2_3
  clear B0_3
  have hB_4 := hB_3.trans (hb.mono hB_3.size)
  have hz_4 := hb.size
  clear hB_3 hb
  by_cases hng2 : left2 < 0
  · go_wp2
    go_ret
    exact ⟨rfl, hB_4⟩
  have hs2 : T2.Small := by unfold Tab.Small; have := hl2 (by omega); omega
  have hle2 : left2 ≤ 1048576 := hm2
  obtain ⟨v, b, cs, ci⟩ := planProof_pair F0 T1 T2 hs0 hs1 hs2
  have CS := Lib.hid cs
  have CI := Lib.hid ci
  clear cs ci
  have B0_c0 := B0_4.out.c0
  have B0_c1 := B0_4.out.c1
  have B0_c2 := B0_4.out.c2
  have B0_c3 := B0_4.out.c3
  go_wp2_with fail
  clear B0_c0 B0_c1 B0_c2 B0_c3
  refine (show Calls _ _ _ _ _ from toSea_law F0 W4 A0_4.out.at hs0).mono ?_
  rintro e W5 ⟨c0, rfl, hkc0, ho, hi, hb⟩
  have A0_5 := Lib.hid (A0_4.out.on hb)
  have A1_5 := Lib.hid (A1_4.out.on hb)
  have A2_5 := Lib.hid (A2_4.out.on hb)
  have B0_5 := Lib.hid (B0_4.out.on hb)
  clear A0_4
  clear A1_4
  clear A2_4
  clear B0_4
  have hB_5 := hB_4.trans (hb.mono hB_4.size)
  have hz_5 := hb.size
  clear hB_4 hb
  have Ic0_5 := Lib.hid hi
  have Oc0_5 := Lib.hid ho
  clear hi ho
  have B0_c0 := B0_5.out.c0
  have B0_c1 := B0_5.out.c1
  have B0_c2 := B0_5.out.c2
  have B0_c3 := B0_5.out.c3
  go_wp2_with fail
  clear B0_c0 B0_c1 B0_c2 B0_c3
  refine (show Calls _ _ _ _ _ from toTab_law T1 W5 A1_5.out.at hs1).mono ?_
  rintro e W6 ⟨c1, rfl, hk, ho, hi, hb⟩
  have hkc1 := Lib.hid hk
  clear hk
  have A0_6 := Lib.hid (A0_5.out.on hb)
  have A1_6 := Lib.hid (A1_5.out.on hb)
  have A2_6 := Lib.hid (A2_5.out.on hb)
  have B0_6 := Lib.hid (B0_5.out.on hb)
  have Ic0_6 := Lib.hid (Ic0_5.out.on hb)
  have Oc0_6 := Lib.hid (Oc0_5.out.on hb)
  clear A0_5
  clear A1_5
  clear A2_5
  clear B0_5
  clear Ic0_5
  clear Oc0_5
  have hB_6 := hB_5.trans (hb.mono hB_5.size)
  have hz_6 := hb.size
  clear hB_5 hb
  have Ic1_6 := Lib.hid hi
  have Oc1_6 := Lib.hid ho
  clear hi ho
  have B0_c0 := B0_6.out.c0
  have B0_c1 := B0_6.out.c1
  have B0_c2 := B0_6.out.c2
  have B0_c3 := B0_6.out.c3
  go_wp2_with fail
  clear B0_c0 B0_c1 B0_c2 B0_c3
  refine (show Calls _ _ _ _ _ from toTab_law T2 W6 A2_6.out.at hs2).mono ?_
  rintro e W7 ⟨c2, rfl, hk, ho, hi, hb⟩
  have hkc2 := Lib.hid hk
  clear hk
  have A0_7 := Lib.hid (A0_6.out.on hb)
  have A1_7 := Lib.hid (A1_6.out.on hb)
  have A2_7 := Lib.hid (A2_6.out.on hb)
  have B0_7 := Lib.hid (B0_6.out.on hb)
  have Ic0_7 := Lib.hid (Ic0_6.out.on hb)
  have Oc0_7 := Lib.hid (Oc0_6.out.on hb)
  have Ic1_7 := Lib.hid (Ic1_6.out.on hb)
  have Oc1_7 := Lib.hid (Oc1_6.out.on hb)
  clear A0_6
  clear A1_6
  clear A2_6
  clear B0_6
  clear Ic0_6
  clear Oc0_6
  clear Ic1_6
  clear Oc1_6
  have hB_7 := hB_6.trans (hb.mono hB_6.size)
  have hz_7 := hb.size
  clear hB_6 hb
  have Ic2_7 := Lib.hid hi
  have Oc2_7 := Lib.hid ho
  clear hi ho
  have B0_c0 := B0_7.out.c0
  have B0_c1 := B0_7.out.c1
  have B0_c2 := B0_7.out.c2
  have B0_c3 := B0_7.out.c3
  go_wp2_with fail
  clear B0_c0 B0_c1 B0_c2 B0_c3
  refine (show Calls _ _ _ _ _ from CS.out c0 c1 c2 W7 Ic0_7.out.at Ic1_7.out.at Ic2_7.out.at hkc0 hkc1.out hkc2.out).mono ?_
  rintro e W8 ⟨rfl, hb⟩
  have A0_8 := Lib.hid (A0_7.out.on hb)
  have A1_8 := Lib.hid (A1_7.out.on hb)
  have A2_8 := Lib.hid (A2_7.out.on hb)
  have B0_8 := Lib.hid (B0_7.out.on hb)
  have Ic0_8 := Lib.hid (Ic0_7.out.on hb)
  have Oc0_8 := Lib.hid (Oc0_7.out.on hb)
  have Ic1_8 := Lib.hid (Ic1_7.out.on hb)
  have Oc1_8 := Lib.hid (Oc1_7.out.on hb)
  have Ic2_8 := Lib.hid (Ic2_7.out.on hb)
  have Oc2_8 := Lib.hid (Oc2_7.out.on hb)
  clear A0_7
  clear A1_7
  clear A2_7
  clear B0_7
  clear Ic0_7
  clear Oc0_7
  clear Ic1_7
  clear Oc1_7
  clear Ic2_7
  clear Oc2_7
  have hB_8 := hB_7.trans (hb.mono hB_7.size)
  have hz_8 := hb.size
  clear hB_7 hb
  clear Oc0_8
  clear Ic0_8
  clear Oc1_8
  clear Ic1_8
  clear Oc2_8
  clear Ic2_8
  have B0_c0 := B0_8.out.c0
  have B0_c1 := B0_8.out.c1
  have B0_c2 := B0_8.out.c2
  have B0_c3 := B0_8.out.c3
  go_wp2_with fail
  clear B0_c0 B0_c1 B0_c2 B0_c3
  refine (show Calls _ _ _ _ _ from toSea_law F0 W8 A0_8.out.at hs0).mono ?_
  rintro e W9 ⟨x0, rfl, hkx0, ho, hi, hb⟩
  have A0_9 := Lib.hid (A0_8.out.on hb)
  have A1_9 := Lib.hid (A1_8.out.on hb)
  have A2_9 := Lib.hid (A2_8.out.on hb)
  have B0_9 := Lib.hid (B0_8.out.on hb)
  clear A0_8
  clear A1_8
  clear A2_8
  clear B0_8
  have hB_9 := hB_8.trans (hb.mono hB_8.size)
  have hz_9 := hb.size
  clear hB_8 hb
  have Ix0_9 := Lib.hid hi
  have Ox0_9 := Lib.hid ho
  clear hi ho
  have B0_c0 := B0_9.out.c0
  have B0_c1 := B0_9.out.c1
  have B0_c2 := B0_9.out.c2
  have B0_c3 := B0_9.out.c3
  go_wp2_with fail
  clear B0_c0 B0_c1 B0_c2 B0_c3
  obtain ⟨W10, hW⟩ : ∃ u, u = boxed4 W9 (.slice x0.o.a x0.o.l.length x0.o.c) (.slice x0.x.a x0.x.l.length x0.x.c) (.slice x0.k.a x0.k.l.length x0.k.c) (.slice x0.r.a x0.r.T.length x0.r.c) := ⟨_, rfl⟩
  rw [show W9.alloc (Obj.cells #[.slice x0.o.a x0.o.l.length x0.o.c, .slice x0.x.a x0.x.l.length x0.x.c, .slice x0.k.a x0.k.l.length x0.k.c, .slice x0.r.a x0.r.T.length x0.r.c] 31) = W10 from hW.symm]
  have hb : Below W9.heap.size W9 W10 := by rw [hW]; exact boxed4_below _ _ _ _ _ 
  have hbx : Box4 W10 W9.heap.size (.slice x0.o.a x0.o.l.length x0.o.c) (.slice x0.x.a x0.x.l.length x0.x.c) (.slice x0.k.a x0.k.l.length x0.k.c) (.slice x0.r.a x0.r.T.length x0.r.c) 31 := by rw [hW]; exact boxed4_box _ _ _ _ _ 
  have hsx : W10.heap.size = W9.heap.size + 1 := by rw [hW]; exact boxed4_size _ _ _ _ _ 
  clear hW
  have A0_10 := Lib.hid (A0_9.out.on hb)
  have A1_10 := Lib.hid (A1_9.out.on hb)
  have A2_10 := Lib.hid (A2_9.out.on hb)
  have B0_10 := Lib.hid (B0_9.out.on hb)
  have Ix0_10 := Lib.hid (Ix0_9.out.on hb)
  have Ox0_10 := Lib.hid (Ox0_9.out.on hb)
  clear A0_9
  clear A1_9
  clear A2_9
  clear B0_9
  clear Ix0_9
  clear Ox0_9
  have hB_10 := hB_9.trans (hb.mono hB_9.size)
  have hz_10 := hb.size
  clear hB_9 hb
  have Bx0_10 := Lib.hid hbx
  clear hbx
  have hzx_10 := Nat.le_of_eq hsx
  have hzy_10 := Nat.le_of_eq hsx.symm
  clear hsx
  refine (show Calls _ _ _ _ _ from toTab_law T1 W10 A1_10.out.at hs1).mono ?_
  rintro e W11 ⟨x1, rfl, hk, ho, hi, hb⟩
  have hkx1 := Lib.hid hk
  clear hk
  have A0_11 := Lib.hid (A0_10.out.on hb)
  have A1_11 := Lib.hid (A1_10.out.on hb)
  have A2_11 := Lib.hid (A2_10.out.on hb)
  have B0_11 := Lib.hid (B0_10.out.on hb)
  have Ix0_11 := Lib.hid (Ix0_10.out.on hb)
  have Ox0_11 := Lib.hid (Ox0_10.out.on hb)
  have Bx0_11 := Lib.hid (Bx0_10.out.on hb)
  clear A0_10
  clear A1_10
  clear A2_10
  clear B0_10
  clear Ix0_10
  clear Ox0_10
  clear Bx0_10
  have hB_11 := hB_10.trans (hb.mono hB_10.size)
  have hz_11 := hb.size
  clear hB_10 hb
  have Ix1_11 := Lib.hid hi
  have Ox1_11 := Lib.hid ho
  clear hi ho
  have B0_c0 := B0_11.out.c0
  have B0_c1 := B0_11.out.c1
  have B0_c2 := B0_11.out.c2
  have B0_c3 := B0_11.out.c3
  have Bx0_c0 := Bx0_11.out.c0
  have Bx0_c1 := Bx0_11.out.c1
  have Bx0_c2 := Bx0_11.out.c2
  have Bx0_c3 := Bx0_11.out.c3
  go_wp2_with fail
  clear B0_c0 B0_c1 B0_c2 B0_c3
  clear Bx0_c0 Bx0_c1 Bx0_c2 Bx0_c3
  refine (show Calls _ _ _ _ _ from toTab_law T2 W11 A2_11.out.at hs2).mono ?_
  rintro e W12 ⟨x2, rfl, hk, ho, hi, hb⟩
  have hkx2 := Lib.hid hk
  clear hk
  have A0_12 := Lib.hid (A0_11.out.on hb)
  have A1_12 := Lib.hid (A1_11.out.on hb)
  have A2_12 := Lib.hid (A2_11.out.on hb)
  have B0_12 := Lib.hid (B0_11.out.on hb)
  have Ix0_12 := Lib.hid (Ix0_11.out.on hb)
  have Ox0_12 := Lib.hid (Ox0_11.out.on hb)
  have Bx0_12 := Lib.hid (Bx0_11.out.on hb)
  have Ix1_12 := Lib.hid (Ix1_11.out.on hb)
  have Ox1_12 := Lib.hid (Ox1_11.out.on hb)
  clear A0_11
  clear A1_11
  clear A2_11
  clear B0_11
  clear Ix0_11
  clear Ox0_11
  clear Bx0_11
  clear Ix1_11
  clear Ox1_11
  have hB_12 := hB_11.trans (hb.mono hB_11.size)
  have hz_12 := hb.size
  clear hB_11 hb
  have Ix2_12 := Lib.hid hi
  have Ox2_12 := Lib.hid ho
  clear hi ho
  have B0_c0 := B0_12.out.c0
  have B0_c1 := B0_12.out.c1
  have B0_c2 := B0_12.out.c2
  have B0_c3 := B0_12.out.c3
  have Bx0_c0 := Bx0_12.out.c0
  have Bx0_c1 := Bx0_12.out.c1
  have Bx0_c2 := Bx0_12.out.c2
  have Bx0_c3 := Bx0_12.out.c3
  go_wp2_with fail
  clear B0_c0 B0_c1 B0_c2 B0_c3
  clear Bx0_c0 Bx0_c1 Bx0_c2 Bx0_c3
  refine (show Calls _ _ _ _ _ from CI.out x0 x1 x2 W12 Ix0_12.out.at Ix1_12.out.at Ix2_12.out.at hkx0 hkx1.out hkx2.out).mono ?_
  rintro e W13 ⟨rfl, hb⟩
  have A0_13 := Lib.hid (A0_12.out.on hb)
  have A1_13 := Lib.hid (A1_12.out.on hb)
  have A2_13 := Lib.hid (A2_12.out.on hb)
  have B0_13 := Lib.hid (B0_12.out.on hb)
  have Ix0_13 := Lib.hid (Ix0_12.out.on hb)
  have Ox0_13 := Lib.hid (Ox0_12.out.on hb)
  have Bx0_13 := Lib.hid (Bx0_12.out.on hb)
  have Ix1_13 := Lib.hid (Ix1_12.out.on hb)
  have Ox1_13 := Lib.hid (Ox1_12.out.on hb)
  have Ix2_13 := Lib.hid (Ix2_12.out.on hb)
  have Ox2_13 := Lib.hid (Ox2_12.out.on hb)
  clear A0_12
  clear A1_12
  clear A2_12
  clear B0_12
  clear Ix0_12
  clear Ox0_12
  clear Bx0_12
  clear Ix1_12
  clear Ox1_12
  clear Ix2_12
  clear Ox2_12
  have hB_13 := hB_12.trans (hb.mono hB_12.size)
  have hz_13 := hb.size
  clear hB_12 hb
  have B0_c0 := B0_13.out.c0
  have B0_c1 := B0_13.out.c1
  have B0_c2 := B0_13.out.c2
  have B0_c3 := B0_13.out.c3
  have Bx0_c0 := Bx0_13.out.c0
  have Bx0_c1 := Bx0_13.out.c1
  have Bx0_c2 := Bx0_13.out.c2
  have Bx0_c3 := Bx0_13.out.c3
  go_wp2_with fail
  clear B0_c0 B0_c1 B0_c2 B0_c3
  clear Bx0_c0 Bx0_c1 Bx0_c2 Bx0_c3
  have HS : Hid (∀ u, Below W13.heap.size W13 u → ((u.cell? ⟨W.heap.size, 0, none⟩ = some (.slice F0.o.a F0.o.l.length F0.o.c) ∧ u.cell? ⟨W.heap.size, 1, none⟩ = some (.slice F0.x.a F0.x.l.length F0.x.c) ∧ u.cell? ⟨W.heap.size, 2, none⟩ = some (.slice F0.k.a F0.k.l.length F0.k.c) ∧ u.cell? ⟨W.heap.size, 3, none⟩ = some (.slice F0.r.a F0.r.T.length F0.r.c) ∧ u.cell? ⟨W9.heap.size, 0, none⟩ = some (.slice x0.o.a x0.o.l.length x0.o.c) ∧ u.cell? ⟨W9.heap.size, 1, none⟩ = some (.slice x0.x.a x0.x.l.length x0.x.c) ∧ u.cell? ⟨W9.heap.size, 2, none⟩ = some (.slice x0.k.a x0.k.l.length x0.k.c) ∧ u.cell? ⟨W9.heap.size, 3, none⟩ = some (.slice x0.r.a x0.r.T.length x0.r.c)) ∧ Below W13.heap.size W13 u)) := Lib.hid fun u hu => box4_cells B0_13.out Bx0_13.out u hu
  have s0 := HS.out W13.drew (Below.refl _ _).drew
  have ct := Lib.hid fun u (hu : Below W13.heap.size W13 u) => toSea_law F0 u (A0_13.out.on hu).at hs0
  have ce := Lib.hid fun u (hu : Below W13.heap.size W13 u) (y : Sea) (hy : y.At u) (hky : y.Like F0) => eqSea_same x0 y u (Ix0_13.out.on hu).at hy (hkx0.trans hky.symm) (hs0.like hkx0.symm)
  go_region_held3 (fun u => ((u.cell? ⟨W.heap.size, 0, none⟩ = some (.slice F0.o.a F0.o.l.length F0.o.c) ∧ u.cell? ⟨W.heap.size, 1, none⟩ = some (.slice F0.x.a F0.x.l.length F0.x.c) ∧ u.cell? ⟨W.heap.size, 2, none⟩ = some (.slice F0.k.a F0.k.l.length F0.k.c) ∧ u.cell? ⟨W.heap.size, 3, none⟩ = some (.slice F0.r.a F0.r.T.length F0.r.c) ∧ u.cell? ⟨W9.heap.size, 0, none⟩ = some (.slice x0.o.a x0.o.l.length x0.o.c) ∧ u.cell? ⟨W9.heap.size, 1, none⟩ = some (.slice x0.x.a x0.x.l.length x0.x.c) ∧ u.cell? ⟨W9.heap.size, 2, none⟩ = some (.slice x0.k.a x0.k.l.length x0.k.c) ∧ u.cell? ⟨W9.heap.size, 3, none⟩ = some (.slice x0.r.a x0.r.T.length x0.r.c)) ∧ Below W13.heap.size W13 u)) (first | exact s0 | exact keep_reg HS.out (by first | assumption | exact And.right (by assumption)) hb1) (first | (go_at_call 10; refine (show Calls _ _ _ _ _ from ct.out _ (by first | assumption | exact And.right (by assumption))).mono ?_; rintro e u1 ⟨y, rfl, hky, _, hy, hb1⟩) | (go_at_call 13; refine (show Calls _ _ _ _ _ from ce.out _ (by first | assumption | exact And.right (by assumption)) y hy.at hky).mono ?_; rintro e u2 ⟨rfl, hb1⟩))
  refine at_exit (W := W13) (by first | assumption | exact And.right (by assumption)) ?_
  intro W14 hb
  clear HS s0 ct ce
  have A0_14 := Lib.hid (A0_13.out.on hb)
  have A1_14 := Lib.hid (A1_13.out.on hb)
  have A2_14 := Lib.hid (A2_13.out.on hb)
  have B0_14 := Lib.hid (B0_13.out.on hb)
  have Ix0_14 := Lib.hid (Ix0_13.out.on hb)
  have Ox0_14 := Lib.hid (Ox0_13.out.on hb)
  have Bx0_14 := Lib.hid (Bx0_13.out.on hb)
  have Ix1_14 := Lib.hid (Ix1_13.out.on hb)
  have Ox1_14 := Lib.hid (Ox1_13.out.on hb)
  have Ix2_14 := Lib.hid (Ix2_13.out.on hb)
  have Ox2_14 := Lib.hid (Ox2_13.out.on hb)
  clear A0_13
  clear A1_13
  clear A2_13
  clear B0_13
  clear Ix0_13
  clear Ox0_13
  clear Bx0_13
  clear Ix1_13
  clear Ox1_13
  clear Ix2_13
  clear Ox2_13
  have hB_14 := hB_13.trans (hb.mono hB_13.size)
  have hz_14 := hb.size
  clear hB_13 hb
  have B0_c0 := B0_14.out.c0
  have B0_c1 := B0_14.out.c1
  have B0_c2 := B0_14.out.c2
  have B0_c3 := B0_14.out.c3
  have Bx0_c0 := Bx0_14.out.c0
  have Bx0_c1 := Bx0_14.out.c1
  have Bx0_c2 := Bx0_14.out.c2
  have Bx0_c3 := Bx0_14.out.c3
  go_wp2_with fail
  clear B0_c0 B0_c1 B0_c2 B0_c3
  clear Bx0_c0 Bx0_c1 Bx0_c2 Bx0_c3
  refine (show Calls _ _ _ _ _ from toTab_law T1 W14 A1_14.out.at hs1).mono ?_
  rintro e W15 ⟨y1, rfl, hk, -, hi, hb⟩
  have hky1 := Lib.hid hk
  clear hk
  have A0_15 := Lib.hid (A0_14.out.on hb)
  have A1_15 := Lib.hid (A1_14.out.on hb)
  have A2_15 := Lib.hid (A2_14.out.on hb)
  have B0_15 := Lib.hid (B0_14.out.on hb)
  have Ix0_15 := Lib.hid (Ix0_14.out.on hb)
  have Ox0_15 := Lib.hid (Ox0_14.out.on hb)
  have Bx0_15 := Lib.hid (Bx0_14.out.on hb)
  have Ix1_15 := Lib.hid (Ix1_14.out.on hb)
  have Ox1_15 := Lib.hid (Ox1_14.out.on hb)
  have Ix2_15 := Lib.hid (Ix2_14.out.on hb)
  have Ox2_15 := Lib.hid (Ox2_14.out.on hb)
  clear A0_14
  clear A1_14
  clear A2_14
  clear B0_14
  clear Ix0_14
  clear Ox0_14
  clear Bx0_14
  clear Ix1_14
  clear Ox1_14
  clear Ix2_14
  clear Ox2_14
  have hB_15 := hB_14.trans (hb.mono hB_14.size)
  have hz_15 := hb.size
  clear hB_14 hb
  have hyx1 := eqTab_law x1 y1 W15 Ix1_15.out.at hi.at (hkx1.out.trans hky1.out.symm) (Tab.Small.rows hs1 hkx1.out).1 (Tab.Small.rows hs1 hkx1.out).2.2
  clear hi
  have B0_c0 := B0_15.out.c0
  have B0_c1 := B0_15.out.c1
  have B0_c2 := B0_15.out.c2
  have B0_c3 := B0_15.out.c3
  have Bx0_c0 := Bx0_15.out.c0
  have Bx0_c1 := Bx0_15.out.c1
  have Bx0_c2 := Bx0_15.out.c2
  have Bx0_c3 := Bx0_15.out.c3
  go_wp2_with fail
  clear B0_c0 B0_c1 B0_c2 B0_c3
  clear Bx0_c0 Bx0_c1 Bx0_c2 Bx0_c3
  refine (show Calls _ _ _ _ _ from hyx1).mono ?_
  rintro e W16 ⟨rfl, hb⟩
  clear hyx1
  have A0_16 := Lib.hid (A0_15.out.on hb)
  have A1_16 := Lib.hid (A1_15.out.on hb)
  have A2_16 := Lib.hid (A2_15.out.on hb)
  have B0_16 := Lib.hid (B0_15.out.on hb)
  have Ix0_16 := Lib.hid (Ix0_15.out.on hb)
  have Ox0_16 := Lib.hid (Ox0_15.out.on hb)
  have Bx0_16 := Lib.hid (Bx0_15.out.on hb)
  have Ix1_16 := Lib.hid (Ix1_15.out.on hb)
  have Ox1_16 := Lib.hid (Ox1_15.out.on hb)
  have Ix2_16 := Lib.hid (Ix2_15.out.on hb)
  have Ox2_16 := Lib.hid (Ox2_15.out.on hb)
  clear A0_15
  clear A1_15
  clear A2_15
  clear B0_15
  clear Ix0_15
  clear Ox0_15
  clear Bx0_15
  clear Ix1_15
  clear Ox1_15
  clear Ix2_15
  clear Ox2_15
  have hB_16 := hB_15.trans (hb.mono hB_15.size)
  have hz_16 := hb.size
  clear hB_15 hb
  have B0_c0 := B0_16.out.c0
  have B0_c1 := B0_16.out.c1
  have B0_c2 := B0_16.out.c2
  have B0_c3 := B0_16.out.c3
  have Bx0_c0 := Bx0_16.out.c0
  have Bx0_c1 := Bx0_16.out.c1
  have Bx0_c2 := Bx0_16.out.c2
  have Bx0_c3 := Bx0_16.out.c3
  go_wp2_with fail
  clear B0_c0 B0_c1 B0_c2 B0_c3
  clear Bx0_c0 Bx0_c1 Bx0_c2 Bx0_c3
  refine (show Calls _ _ _ _ _ from toTab_law T2 W16 A2_16.out.at hs2).mono ?_
  rintro e W17 ⟨y2, rfl, hk, -, hi, hb⟩
  have hky2 := Lib.hid hk
  clear hk
  have A0_17 := Lib.hid (A0_16.out.on hb)
  have A1_17 := Lib.hid (A1_16.out.on hb)
  have A2_17 := Lib.hid (A2_16.out.on hb)
  have B0_17 := Lib.hid (B0_16.out.on hb)
  have Ix0_17 := Lib.hid (Ix0_16.out.on hb)
  have Ox0_17 := Lib.hid (Ox0_16.out.on hb)
  have Bx0_17 := Lib.hid (Bx0_16.out.on hb)
  have Ix1_17 := Lib.hid (Ix1_16.out.on hb)
  have Ox1_17 := Lib.hid (Ox1_16.out.on hb)
  have Ix2_17 := Lib.hid (Ix2_16.out.on hb)
  have Ox2_17 := Lib.hid (Ox2_16.out.on hb)
  clear A0_16
  clear A1_16
  clear A2_16
  clear B0_16
  clear Ix0_16
  clear Ox0_16
  clear Bx0_16
  clear Ix1_16
  clear Ox1_16
  clear Ix2_16
  clear Ox2_16
  have hB_17 := hB_16.trans (hb.mono hB_16.size)
  have hz_17 := hb.size
  clear hB_16 hb
  have hyx2 := eqTab_law x2 y2 W17 Ix2_17.out.at hi.at (hkx2.out.trans hky2.out.symm) (Tab.Small.rows hs2 hkx2.out).1 (Tab.Small.rows hs2 hkx2.out).2.2
  clear hi
  have B0_c0 := B0_17.out.c0
  have B0_c1 := B0_17.out.c1
  have B0_c2 := B0_17.out.c2
  have B0_c3 := B0_17.out.c3
  have Bx0_c0 := Bx0_17.out.c0
  have Bx0_c1 := Bx0_17.out.c1
  have Bx0_c2 := Bx0_17.out.c2
  have Bx0_c3 := Bx0_17.out.c3
  go_wp2_with fail
  clear B0_c0 B0_c1 B0_c2 B0_c3
  clear Bx0_c0 Bx0_c1 Bx0_c2 Bx0_c3
  refine (show Calls _ _ _ _ _ from hyx2).mono ?_
  rintro e W18 ⟨rfl, hb⟩
  clear hyx2
  have A0_18 := Lib.hid (A0_17.out.on hb)
  have A1_18 := Lib.hid (A1_17.out.on hb)
  have A2_18 := Lib.hid (A2_17.out.on hb)
  have B0_18 := Lib.hid (B0_17.out.on hb)
  have Ix0_18 := Lib.hid (Ix0_17.out.on hb)
  have Ox0_18 := Lib.hid (Ox0_17.out.on hb)
  have Bx0_18 := Lib.hid (Bx0_17.out.on hb)
  have Ix1_18 := Lib.hid (Ix1_17.out.on hb)
  have Ox1_18 := Lib.hid (Ox1_17.out.on hb)
  have Ix2_18 := Lib.hid (Ix2_17.out.on hb)
  have Ox2_18 := Lib.hid (Ox2_17.out.on hb)
  clear A0_17
  clear A1_17
  clear A2_17
  clear B0_17
  clear Ix0_17
  clear Ox0_17
  clear Bx0_17
  clear Ix1_17
  clear Ox1_17
  clear Ix2_17
  clear Ox2_17
  have hB_18 := hB_17.trans (hb.mono hB_17.size)
  have hz_18 := hb.size
  clear hB_17 hb
  have B0_c0 := B0_18.out.c0
  have B0_c1 := B0_18.out.c1
  have B0_c2 := B0_18.out.c2
  have B0_c3 := B0_18.out.c3
  have Bx0_c0 := Bx0_18.out.c0
  have Bx0_c1 := Bx0_18.out.c1
  have Bx0_c2 := Bx0_18.out.c2
  have Bx0_c3 := Bx0_18.out.c3
  go_wp2_with fail
  clear B0_c0 B0_c1 B0_c2 B0_c3
  clear Bx0_c0 Bx0_c1 Bx0_c2 Bx0_c3
  go_ret
  exact ⟨rfl, hB_18⟩

/- The row's step. -/
set_option maxRecDepth 100000 in
set_option maxHeartbeats 4000000 in
theorem lifted (os : Os) (started : os.Started) (H : Type) (enc : TypeId × Value → H) :
    ReturnsInHanded {} Try.checked os 4 .any (Rows.fnExactPlanProofSpec.pre6 enc Try.prog Try.f4 Rows.fnExactPlanProofRow.domain false) (Rows.fnExactPlanProofSpec.post enc Try.prog Try.f4 false true false false) := by
  refine returnsInHanded_of_change_shaped (C := Try.checked) own started (by kernel_rfl) Try.func4
    (ChangeSpec.witness6 (enc := enc) (C := Try.checked) false ⟨#[], #[.agg #[.slice none 0 0, .slice none 0 0, .slice none 0 0, .slice none 0 0], .slice none 0 0, .slice none 0 0], []⟩ 8 (by kernel_rfl) (by kernel_rfl) (by kernel_rfl) (by kernel_rfl)) ?_
  intro W base args ds gs before hval0 hW hcnd hsz0 hShape _
  have hval : ∀ (j : Nat) t v, Try.f4.params[j]? = some t → args[j]? = some v → Value.okWide Try.prog W .any base t v := hval0
  have hW' := hW
  obtain ⟨p, q, hA0, hV, rfl, hfz, hnd⟩ := hW
  have hA : DataW.TrodAll enc Try.prog W 0 (fun _ => true) true Try.f4.params.toList args.toList ds p := hA0
  rw [Try.params4] at hA hval
  obtain ⟨v0, vs0, d0, ds0, p0, q0, hargs, rfl, rfl, h0, more0⟩ := trodAll_cons hA
  obtain ⟨v1, vs1, d1, ds1, p1, q1, rfl, rfl, rfl, h1, more1⟩ := trodAll_cons more0
  obtain ⟨v2, vs2, d2, ds2, p2, q2, rfl, rfl, rfl, h2, more2⟩ := trodAll_cons more1
  obtain ⟨rfl, rfl, rfl⟩ := trodAll_nil more2
  obtain rfl : args = #[v0, v1, v2] := by cases args; simp_all
  obtain ⟨rfl, rfl⟩ := trodVars_none hV
  have k0 := h0
  have lt0 : ∀ x ∈ p0, x.block < W.heap.size := by obtain ⟨m, hm⟩ := k0; exact DataW.trod_lt m _ _ _ hm
  obtain ⟨F0, rfl, w0⟩ := open_sea (P := Try.prog) (W := W) Try.underlying25 (by kernel_rfl) (by kernel_rfl) rfl rfl rfl rfl Try.underlying22 Try.underlying22 Try.underlying22 Try.underlying3 (by kernel_rfl) Try.underlying23 Try.underlying26 (by kernel_rfl) Try.underlying22 (by kernel_rfl) (hval 0 25 v0 rfl rfl) h0
  have k1 := h1
  have lt1 : ∀ x ∈ p1, x.block < W.heap.size := by obtain ⟨m, hm⟩ := k1; exact DataW.trod_lt m _ _ _ hm
  obtain ⟨T1, rfl, w1⟩ := open_tab (P := Try.prog) (W := W) Try.underlying26 Try.underlying22 Try.underlying3 (by kernel_rfl) (by kernel_rfl) (hval 1 26 v1 rfl rfl) h1
  have k2 := h2
  have lt2 : ∀ x ∈ p2, x.block < W.heap.size := by obtain ⟨m, hm⟩ := k2; exact DataW.trod_lt m _ _ _ hm
  obtain ⟨T2, rfl, w2⟩ := open_tab (P := Try.prog) (W := W) Try.underlying26 Try.underlying22 Try.underlying3 (by kernel_rfl) (by kernel_rfl) (hval 2 26 v2 rfl rfl) h2
  clear hA0 hval0
  refine (walk W F0 w0 T1 w1 T2 w2 ).mono fun e W' ⟨he, bel⟩ => ?_
  subst he
  exact ⟨_, rfl, _, _, _, [], _, [], hW', trodAll_mk1 (shut_bool Try.underlying4 _), (trodAll_cons_mk (Below.trod laidOut (by kernel_rfl) (of_decide_eq_true (by kernel_rfl)) k0 bel lt0) (trodAll_cons_mk (Below.trod laidOut (by kernel_rfl) (of_decide_eq_true (by kernel_rfl)) k1 bel lt1) (trodAll_cons_mk (Below.trod laidOut (by kernel_rfl) (of_decide_eq_true (by kernel_rfl)) k2 bel lt2) trodAll_mk0))), rfl, bel.frame _, fun h => by cases h⟩

theorem over : Rows.fnExactPlanProofRow.holds Try.pinned (OpenSpec.ofChange Rows.fnExactPlanProofSpec) :=
  OpenClaim.holds_of_wide 4 Try.f4 rfl rfl rfl rfl rfl rfl rfl ⟨rfl, rfl, rfl, rfl, rfl⟩ rfl rfl rfl rfl rfl (by kernel_rfl) Try.func4 (by kernel_rfl)
    (of_decide_eq_true (by kernel_rfl)) (by unfold Func.isWrapper; first | (rw [if_pos (by decide +kernel)]; kernel_rfl) | (rw [if_neg (by decide +kernel)]; exact ⟨rfl, rfl⟩))
    (fun os started H enc _ => lifted os started H enc)

/-- The statement. -/
theorem proved : Rows.FnExactPlanProofSaid :=
  over
#print axioms proved
end Go.Proofs.Ytifgmbljimfebaa.fnExactPlanProof
