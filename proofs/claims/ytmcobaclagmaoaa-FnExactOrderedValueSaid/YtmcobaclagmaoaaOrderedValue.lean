/- Proved here: called with any arguments, the law FnExactOrderedValue returns true and the arguments read afterwards as they read before: impl.OrderedValue answers as its model does, the ordered value of a set for a list of weights.
   Conditions: none but the statement's own (the arguments can be read as data). -/
import Derived.Test.YtmcobaclagmaoaaRows
import Derived.WalkKit
import Derived.ProofKit
import Derived.OpenShut
import Derived.ShutString
import Derived.Below
import Derived.ChangeOld
import Derived.HandedShaped
import Derived.Test.YtmcobaclagmaoaaOpen
import Derived.Test.YtmcobaclagmaoaaPairOrderedValue
namespace Go.Proofs.Ytmcobaclagmaoaa.fnExactOrderedValue
open Go.ChangeShapes Go.WideShapes Go.ChangeAt Go.RowKit
open Go.ChangeMaps (open_string shut_string)
set_option linter.unusedVariables false

theorem own : ownKnob Try.prog.godebug = none := by kernel_rfl
theorem laidOut : laidOutB Try.prog = true := by kernel_rfl
/- The walk of the law's body. -/
set_option maxRecDepth 100000 in
set_option maxHeartbeats 1500000 in
theorem walk (W : World) (F0 : Fld) (w0 : F0.At W) (r1 : Row) (w1 : r1.At W) (r2 : Row) (w2 : r2.At W)  :
    Calls Try.prog 4 #[F0.val, r1.val, r2.val] W fun e w' => e = .returned (.bool true) ∧ Below W.heap.size W w' := by
  have hB_0 := Below.refl W.heap.size W
  have hlim1 : (r1.l.length : Int) ≤ 9223372036854775807 := by obtain ⟨q1, q2, _⟩ := w1; rw [iv_length] at q1; unfold maxLen at q2; omega
  have hlim2 : (r2.l.length : Int) ≤ 9223372036854775807 := by obtain ⟨q1, q2, _⟩ := w2; rw [iv_length] at q1; unfold maxLen at q2; omega
  have A0_0 := Lib.hid w0.in
  clear w0
  have A1_0 := Lib.hid w1.in
  clear w1
  have A2_0 := Lib.hid w2.in
  clear w2
  by_cases hbig1 : (1048576 : Int) < r1.l.length
  · show Calls _ _ #[.agg #[F0.o.val, F0.t.val], .slice r1.a r1.l.length r1.c, .slice r2.a r2.l.length r2.c] _ _
    go_enter Try.func4, Try.ntmps4
    go_wp2
    go_ret
    exact ⟨rfl, below_alloc _ _⟩
  have hs1 : r1.l.length ≤ 1048576 := by omega
  by_cases hbig2 : (1048576 : Int) < r2.l.length
  · show Calls _ _ #[.agg #[F0.o.val, F0.t.val], .slice r1.a r1.l.length r1.c, .slice r2.a r2.l.length r2.c] _ _
    go_enter Try.func4, Try.ntmps4
    go_wp2
    go_ret
    exact ⟨rfl, below_alloc _ _⟩
  have hs2 : r2.l.length ≤ 1048576 := by omega
  show Calls _ _ #[.agg #[F0.o.val, F0.t.val], .slice r1.a r1.l.length r1.c, .slice r2.a r2.l.length r2.c] _ _
  go_enter Try.func4, Try.ntmps4
  go_wp2_with fail
  obtain ⟨W1, hW⟩ : ∃ u, u = (W.alloc (Obj.cells #[F0.o.val, F0.t.val] 25)) := ⟨_, rfl⟩
  rw [show (W.alloc (Obj.cells #[F0.o.val, F0.t.val] 25)) = W1 from hW.symm]
  have hb : Below W.heap.size W W1 := by rw [hW]; exact below_alloc _ _
  have hbx : Box2 W1 W.heap.size (F0.o.val) (F0.t.val) 25 := by rw [hW]; exact Box2.made _ _ _ _ 
  have hsx : W1.heap.size = W.heap.size + 1 := by rw [hW]; exact size_alloc _ _
  clear hW
  have A0_1 := Lib.hid (A0_0.out.on hb)
  have A1_1 := Lib.hid (A1_0.out.on hb)
  have A2_1 := Lib.hid (A2_0.out.on hb)
  clear A0_0
  clear A1_0
  clear A2_0
  have hB_1 := hB_0.trans (hb.mono hB_0.size)
  have hz_1 := hb.size
  clear hB_0 hb
  have B0_1 := Lib.hid hbx
  clear hbx
  have hzx_1 := Nat.le_of_eq hsx
  have hzy_1 := Nat.le_of_eq hsx.symm
  clear hsx
  refine (show Calls _ _ _ _ _ from szFld_any F0 1048576 W1 A0_1.out.at (by omega) (by omega)).mono ?_
  rintro e W2 ⟨⟨left0, rfl, hl0, hm0⟩, hb⟩
  have A0_2 := Lib.hid (A0_1.out.on hb)
  have A1_2 := Lib.hid (A1_1.out.on hb)
  have A2_2 := Lib.hid (A2_1.out.on hb)
  have B0_2 := Lib.hid (B0_1.out.on hb)
  clear A0_1
  clear A1_1
  clear A2_1
  clear B0_1
  have hB_2 := hB_1.trans (hb.mono hB_1.size)
  have hz_2 := hb.size
  clear hB_1 hb
  by_cases hng0 : left0 < 0
  · go_wp2
    go_ret
    exact ⟨rfl, hB_2⟩
  have hs0 : F0.Small := by unfold Fld.Small; have := hl0 (by omega); omega
  have hle0 : left0 ≤ 1048576 := hm0
  obtain ⟨v, b, cs, ci⟩ := orderedValue_pair F0 r1 r2 hs0 hs1 hs2
  have CS := Lib.hid cs
  have CI := Lib.hid ci
  clear cs ci
  have B0_c0 := B0_2.out.c0
  have B0_c1 := B0_2.out.c1
  go_wp2_with fail
  clear B0_c0 B0_c1
  refine (show Calls _ _ _ _ _ from toFld_law F0 W2 A0_2.out.at hs0).mono ?_
  rintro e W3 ⟨c0, rfl, hkc0, ho, hi, hb⟩
  have A0_3 := Lib.hid (A0_2.out.on hb)
  have A1_3 := Lib.hid (A1_2.out.on hb)
  have A2_3 := Lib.hid (A2_2.out.on hb)
  have B0_3 := Lib.hid (B0_2.out.on hb)
  clear A0_2
  clear A1_2
  clear A2_2
  clear B0_2
  have hB_3 := hB_2.trans (hb.mono hB_2.size)
  have hz_3 := hb.size
  clear hB_2 hb
  have Ic0_3 := Lib.hid hi
  have Oc0_3 := Lib.hid ho
  clear hi ho
  have B0_c0 := B0_3.out.c0
  have B0_c1 := B0_3.out.c1
  go_wp2_with fail
  clear B0_c0 B0_c1
  refine (show Calls _ _ _ _ _ from toInts_row r1 W3 A1_3.out.at hs1).mono ?_
  rintro e W4 ⟨c1, rfl, hk, -, ho, hi, hb⟩
  have hkc1 := Lib.hid hk
  clear hk
  have A0_4 := Lib.hid (A0_3.out.on hb)
  have A1_4 := Lib.hid (A1_3.out.on hb)
  have A2_4 := Lib.hid (A2_3.out.on hb)
  have B0_4 := Lib.hid (B0_3.out.on hb)
  have Ic0_4 := Lib.hid (Ic0_3.out.on hb)
  have Oc0_4 := Lib.hid (Oc0_3.out.on hb)
  clear A0_3
  clear A1_3
  clear A2_3
  clear B0_3
  clear Ic0_3
  clear Oc0_3
  have hB_4 := hB_3.trans (hb.mono hB_3.size)
  have hz_4 := hb.size
  clear hB_3 hb
  have Ic1_4 := Lib.hid hi
  have Oc1_4 := Lib.hid ho
  clear hi ho
  have B0_c0 := B0_4.out.c0
  have B0_c1 := B0_4.out.c1
  go_wp2_with fail
  clear B0_c0 B0_c1
  refine (show Calls _ _ _ _ _ from toInts_row r2 W4 A2_4.out.at hs2).mono ?_
  rintro e W5 ⟨c2, rfl, hk, -, ho, hi, hb⟩
  have hkc2 := Lib.hid hk
  clear hk
  have A0_5 := Lib.hid (A0_4.out.on hb)
  have A1_5 := Lib.hid (A1_4.out.on hb)
  have A2_5 := Lib.hid (A2_4.out.on hb)
  have B0_5 := Lib.hid (B0_4.out.on hb)
  have Ic0_5 := Lib.hid (Ic0_4.out.on hb)
  have Oc0_5 := Lib.hid (Oc0_4.out.on hb)
  have Ic1_5 := Lib.hid (Ic1_4.out.on hb)
  have Oc1_5 := Lib.hid (Oc1_4.out.on hb)
  clear A0_4
  clear A1_4
  clear A2_4
  clear B0_4
  clear Ic0_4
  clear Oc0_4
  clear Ic1_4
  clear Oc1_4
  have hB_5 := hB_4.trans (hb.mono hB_4.size)
  have hz_5 := hb.size
  clear hB_4 hb
  have Ic2_5 := Lib.hid hi
  have Oc2_5 := Lib.hid ho
  clear hi ho
  have B0_c0 := B0_5.out.c0
  have B0_c1 := B0_5.out.c1
  go_wp2_with fail
  clear B0_c0 B0_c1
  refine (show Calls _ _ _ _ _ from CS.out c0 c1 c2 W5 Ic0_5.out.at Ic1_5.out.at Ic2_5.out.at hkc0 hkc1.out hkc2.out).mono ?_
  rintro e W6 ⟨rfl, hb⟩
  have A0_6 := Lib.hid (A0_5.out.on hb)
  have A1_6 := Lib.hid (A1_5.out.on hb)
  have A2_6 := Lib.hid (A2_5.out.on hb)
  have B0_6 := Lib.hid (B0_5.out.on hb)
  have Ic0_6 := Lib.hid (Ic0_5.out.on hb)
  have Oc0_6 := Lib.hid (Oc0_5.out.on hb)
  have Ic1_6 := Lib.hid (Ic1_5.out.on hb)
  have Oc1_6 := Lib.hid (Oc1_5.out.on hb)
  have Ic2_6 := Lib.hid (Ic2_5.out.on hb)
  have Oc2_6 := Lib.hid (Oc2_5.out.on hb)
  clear A0_5
  clear A1_5
  clear A2_5
  clear B0_5
  clear Ic0_5
  clear Oc0_5
  clear Ic1_5
  clear Oc1_5
  clear Ic2_5
  clear Oc2_5
  have hB_6 := hB_5.trans (hb.mono hB_5.size)
  have hz_6 := hb.size
  clear hB_5 hb
  clear Oc0_6
  clear Ic0_6
  clear Oc1_6
  clear Ic1_6
  clear Oc2_6
  clear Ic2_6
  have B0_c0 := B0_6.out.c0
  have B0_c1 := B0_6.out.c1
  go_wp2_with fail
  clear B0_c0 B0_c1
  refine (show Calls _ _ _ _ _ from toFld_law F0 W6 A0_6.out.at hs0).mono ?_
  rintro e W7 ⟨x0, rfl, hkx0, ho, hi, hb⟩
  have A0_7 := Lib.hid (A0_6.out.on hb)
  have A1_7 := Lib.hid (A1_6.out.on hb)
  have A2_7 := Lib.hid (A2_6.out.on hb)
  have B0_7 := Lib.hid (B0_6.out.on hb)
  clear A0_6
  clear A1_6
  clear A2_6
  clear B0_6
  have hB_7 := hB_6.trans (hb.mono hB_6.size)
  have hz_7 := hb.size
  clear hB_6 hb
  have Ix0_7 := Lib.hid hi
  have Ox0_7 := Lib.hid ho
  clear hi ho
  have B0_c0 := B0_7.out.c0
  have B0_c1 := B0_7.out.c1
  go_wp2_with fail
  clear B0_c0 B0_c1
  obtain ⟨W8, hW⟩ : ∃ u, u = boxed W7 (.slice x0.o.a x0.o.l.length x0.o.c) (.slice x0.t.a x0.t.R.length x0.t.c) := ⟨_, rfl⟩
  rw [show W7.alloc (Obj.cells #[.slice x0.o.a x0.o.l.length x0.o.c, .slice x0.t.a x0.t.R.length x0.t.c] 29) = W8 from hW.symm]
  have hb : Below W7.heap.size W7 W8 := by rw [hW]; exact boxed_below _ _ _ 
  have hbx : Box2 W8 W7.heap.size (.slice x0.o.a x0.o.l.length x0.o.c) (.slice x0.t.a x0.t.R.length x0.t.c) 29 := by rw [hW]; exact boxed_box _ _ _ 
  have hsx : W8.heap.size = W7.heap.size + 1 := by rw [hW]; exact boxed_size _ _ _ 
  clear hW
  have A0_8 := Lib.hid (A0_7.out.on hb)
  have A1_8 := Lib.hid (A1_7.out.on hb)
  have A2_8 := Lib.hid (A2_7.out.on hb)
  have B0_8 := Lib.hid (B0_7.out.on hb)
  have Ix0_8 := Lib.hid (Ix0_7.out.on hb)
  have Ox0_8 := Lib.hid (Ox0_7.out.on hb)
  clear A0_7
  clear A1_7
  clear A2_7
  clear B0_7
  clear Ix0_7
  clear Ox0_7
  have hB_8 := hB_7.trans (hb.mono hB_7.size)
  have hz_8 := hb.size
  clear hB_7 hb
  have Bx0_8 := Lib.hid hbx
  clear hbx
  have hzx_8 := Nat.le_of_eq hsx
  have hzy_8 := Nat.le_of_eq hsx.symm
  clear hsx
  refine (show Calls _ _ _ _ _ from toInts_row r1 W8 A1_8.out.at hs1).mono ?_
  rintro e W9 ⟨x1, rfl, hk, -, ho, hi, hb⟩
  have hkx1 := Lib.hid hk
  clear hk
  have A0_9 := Lib.hid (A0_8.out.on hb)
  have A1_9 := Lib.hid (A1_8.out.on hb)
  have A2_9 := Lib.hid (A2_8.out.on hb)
  have B0_9 := Lib.hid (B0_8.out.on hb)
  have Ix0_9 := Lib.hid (Ix0_8.out.on hb)
  have Ox0_9 := Lib.hid (Ox0_8.out.on hb)
  have Bx0_9 := Lib.hid (Bx0_8.out.on hb)
  clear A0_8
  clear A1_8
  clear A2_8
  clear B0_8
  clear Ix0_8
  clear Ox0_8
  clear Bx0_8
  have hB_9 := hB_8.trans (hb.mono hB_8.size)
  have hz_9 := hb.size
  clear hB_8 hb
  have Ix1_9 := Lib.hid hi
  have Ox1_9 := Lib.hid ho
  clear hi ho
  have B0_c0 := B0_9.out.c0
  have B0_c1 := B0_9.out.c1
  have Bx0_c0 := Bx0_9.out.c0
  have Bx0_c1 := Bx0_9.out.c1
  go_wp2_with fail
  clear B0_c0 B0_c1
  clear Bx0_c0 Bx0_c1
  refine (show Calls _ _ _ _ _ from toInts_row r2 W9 A2_9.out.at hs2).mono ?_
  rintro e W10 ⟨x2, rfl, hk, -, ho, hi, hb⟩
  have hkx2 := Lib.hid hk
  clear hk
  have A0_10 := Lib.hid (A0_9.out.on hb)
  have A1_10 := Lib.hid (A1_9.out.on hb)
  have A2_10 := Lib.hid (A2_9.out.on hb)
  have B0_10 := Lib.hid (B0_9.out.on hb)
  have Ix0_10 := Lib.hid (Ix0_9.out.on hb)
  have Ox0_10 := Lib.hid (Ox0_9.out.on hb)
  have Bx0_10 := Lib.hid (Bx0_9.out.on hb)
  have Ix1_10 := Lib.hid (Ix1_9.out.on hb)
  have Ox1_10 := Lib.hid (Ox1_9.out.on hb)
  clear A0_9
  clear A1_9
  clear A2_9
  clear B0_9
  clear Ix0_9
  clear Ox0_9
  clear Bx0_9
  clear Ix1_9
  clear Ox1_9
  have hB_10 := hB_9.trans (hb.mono hB_9.size)
  have hz_10 := hb.size
  clear hB_9 hb
  have Ix2_10 := Lib.hid hi
  have Ox2_10 := Lib.hid ho
  clear hi ho
  have B0_c0 := B0_10.out.c0
  have B0_c1 := B0_10.out.c1
  have Bx0_c0 := Bx0_10.out.c0
  have Bx0_c1 := Bx0_10.out.c1
  go_wp2_with fail
  clear B0_c0 B0_c1
  clear Bx0_c0 Bx0_c1
  refine (show Calls _ _ _ _ _ from CI.out x0 x1 x2 W10 Ix0_10.out.at Ix1_10.out.at Ix2_10.out.at hkx0 hkx1.out hkx2.out).mono ?_
  rintro e W11 ⟨rfl, hb⟩
  have A0_11 := Lib.hid (A0_10.out.on hb)
  have A1_11 := Lib.hid (A1_10.out.on hb)
  have A2_11 := Lib.hid (A2_10.out.on hb)
  have B0_11 := Lib.hid (B0_10.out.on hb)
  have Ix0_11 := Lib.hid (Ix0_10.out.on hb)
  have Ox0_11 := Lib.hid (Ox0_10.out.on hb)
  have Bx0_11 := Lib.hid (Bx0_10.out.on hb)
  have Ix1_11 := Lib.hid (Ix1_10.out.on hb)
  have Ox1_11 := Lib.hid (Ox1_10.out.on hb)
  have Ix2_11 := Lib.hid (Ix2_10.out.on hb)
  have Ox2_11 := Lib.hid (Ox2_10.out.on hb)
  clear A0_10
  clear A1_10
  clear A2_10
  clear B0_10
  clear Ix0_10
  clear Ox0_10
  clear Bx0_10
  clear Ix1_10
  clear Ox1_10
  clear Ix2_10
  clear Ox2_10
  have hB_11 := hB_10.trans (hb.mono hB_10.size)
  have hz_11 := hb.size
  clear hB_10 hb
  have B0_c0 := B0_11.out.c0
  have B0_c1 := B0_11.out.c1
  have Bx0_c0 := Bx0_11.out.c0
  have Bx0_c1 := Bx0_11.out.c1
  go_wp2_with fail
  clear B0_c0 B0_c1
  clear Bx0_c0 Bx0_c1
  have HS : Hid (∀ u, Below W11.heap.size W11 u → ((u.cell? ⟨W.heap.size, 0, none⟩ = some (F0.o.val) ∧ u.cell? ⟨W.heap.size, 1, none⟩ = some (F0.t.val) ∧ u.cell? ⟨W7.heap.size, 0, none⟩ = some (.slice x0.o.a x0.o.l.length x0.o.c) ∧ u.cell? ⟨W7.heap.size, 1, none⟩ = some (.slice x0.t.a x0.t.R.length x0.t.c)) ∧ Below W11.heap.size W11 u)) := Lib.hid fun u hu => box_cells B0_11.out Bx0_11.out u hu
  have s0 := HS.out W11.drew (Below.refl _ _).drew
  have ct := Lib.hid fun u (hu : Below W11.heap.size W11 u) => toFld_law F0 u (A0_11.out.on hu).at hs0
  have ce := Lib.hid fun u (hu : Below W11.heap.size W11 u) (y : Fld) (hy : y.At u) (hky : y.Like F0) => eqFld_same x0 y u (Ix0_11.out.on hu).at hy (hkx0.trans hky.symm) (hs0.like hkx0.symm)
  go_region_held3 (fun u => ((u.cell? ⟨W.heap.size, 0, none⟩ = some (F0.o.val) ∧ u.cell? ⟨W.heap.size, 1, none⟩ = some (F0.t.val) ∧ u.cell? ⟨W7.heap.size, 0, none⟩ = some (.slice x0.o.a x0.o.l.length x0.o.c) ∧ u.cell? ⟨W7.heap.size, 1, none⟩ = some (.slice x0.t.a x0.t.R.length x0.t.c)) ∧ Below W11.heap.size W11 u)) (first | exact s0 | exact keep_reg HS.out (by first | assumption | exact And.right (by assumption)) hb1) (first | (go_at_call 8; refine (show Calls _ _ _ _ _ from ct.out _ (by first | assumption | exact And.right (by assumption))).mono ?_; rintro e u1 ⟨y, rfl, hky, _, hy, hb1⟩) | (go_at_call 11; refine (show Calls _ _ _ _ _ from ce.out _ (by first | assumption | exact And.right (by assumption)) y hy.at hky).mono ?_; rintro e u2 ⟨rfl, hb1⟩))
  refine at_exit (W := W11) (by first | assumption | exact And.right (by assumption)) ?_
  intro W12 hb
  clear HS s0 ct ce
  have A0_12 := Lib.hid (A0_11.out.on hb)
  have A1_12 := Lib.hid (A1_11.out.on hb)
  have A2_12 := Lib.hid (A2_11.out.on hb)
  have B0_12 := Lib.hid (B0_11.out.on hb)
  have Ix0_12 := Lib.hid (Ix0_11.out.on hb)
  have Ox0_12 := Lib.hid (Ox0_11.out.on hb)
  have Bx0_12 := Lib.hid (Bx0_11.out.on hb)
  have Ix1_12 := Lib.hid (Ix1_11.out.on hb)
  have Ox1_12 := Lib.hid (Ox1_11.out.on hb)
  have Ix2_12 := Lib.hid (Ix2_11.out.on hb)
  have Ox2_12 := Lib.hid (Ox2_11.out.on hb)
  clear A0_11
  clear A1_11
  clear A2_11
  clear B0_11
  clear Ix0_11
  clear Ox0_11
  clear Bx0_11
  clear Ix1_11
  clear Ox1_11
  clear Ix2_11
  clear Ox2_11
  have hB_12 := hB_11.trans (hb.mono hB_11.size)
  have hz_12 := hb.size
  clear hB_11 hb
  have B0_c0 := B0_12.out.c0
  have B0_c1 := B0_12.out.c1
  have Bx0_c0 := Bx0_12.out.c0
  have Bx0_c1 := Bx0_12.out.c1
  go_wp2_with fail
  clear B0_c0 B0_c1
  clear Bx0_c0 Bx0_c1
  refine (show Calls _ _ _ _ _ from toInts_row r1 W12 A1_12.out.at hs1).mono ?_
  rintro e W13 ⟨y1, rfl, hk, -, -, hi, hb⟩
  have hky1 := Lib.hid hk
  clear hk
  have A0_13 := Lib.hid (A0_12.out.on hb)
  have A1_13 := Lib.hid (A1_12.out.on hb)
  have A2_13 := Lib.hid (A2_12.out.on hb)
  have B0_13 := Lib.hid (B0_12.out.on hb)
  have Ix0_13 := Lib.hid (Ix0_12.out.on hb)
  have Ox0_13 := Lib.hid (Ox0_12.out.on hb)
  have Bx0_13 := Lib.hid (Bx0_12.out.on hb)
  have Ix1_13 := Lib.hid (Ix1_12.out.on hb)
  have Ox1_13 := Lib.hid (Ox1_12.out.on hb)
  have Ix2_13 := Lib.hid (Ix2_12.out.on hb)
  have Ox2_13 := Lib.hid (Ox2_12.out.on hb)
  clear A0_12
  clear A1_12
  clear A2_12
  clear B0_12
  clear Ix0_12
  clear Ox0_12
  clear Bx0_12
  clear Ix1_12
  clear Ox1_12
  clear Ix2_12
  clear Ox2_12
  have hB_13 := hB_12.trans (hb.mono hB_12.size)
  have hz_13 := hb.size
  clear hB_12 hb
  have hyx1 := eqRow_law x1 y1 W13 Ix1_13.out.at hi.at (hkx1.out.trans hky1.out.symm) (by rw [hkx1.out]; exact hs1)
  clear hi
  have B0_c0 := B0_13.out.c0
  have B0_c1 := B0_13.out.c1
  have Bx0_c0 := Bx0_13.out.c0
  have Bx0_c1 := Bx0_13.out.c1
  go_wp2_with fail
  clear B0_c0 B0_c1
  clear Bx0_c0 Bx0_c1
  refine (show Calls _ _ _ _ _ from hyx1).mono ?_
  rintro e W14 ⟨rfl, hb⟩
  clear hyx1
  have A0_14 := Lib.hid (A0_13.out.on hb)
  have A1_14 := Lib.hid (A1_13.out.on hb)
  have A2_14 := Lib.hid (A2_13.out.on hb)
  have B0_14 := Lib.hid (B0_13.out.on hb)
  have Ix0_14 := Lib.hid (Ix0_13.out.on hb)
  have Ox0_14 := Lib.hid (Ox0_13.out.on hb)
  have Bx0_14 := Lib.hid (Bx0_13.out.on hb)
  have Ix1_14 := Lib.hid (Ix1_13.out.on hb)
  have Ox1_14 := Lib.hid (Ox1_13.out.on hb)
  have Ix2_14 := Lib.hid (Ix2_13.out.on hb)
  have Ox2_14 := Lib.hid (Ox2_13.out.on hb)
  clear A0_13
  clear A1_13
  clear A2_13
  clear B0_13
  clear Ix0_13
  clear Ox0_13
  clear Bx0_13
  clear Ix1_13
  clear Ox1_13
  clear Ix2_13
  clear Ox2_13
  have hB_14 := hB_13.trans (hb.mono hB_13.size)
  have hz_14 := hb.size
  clear hB_13 hb
  have B0_c0 := B0_14.out.c0
  have B0_c1 := B0_14.out.c1
  have Bx0_c0 := Bx0_14.out.c0
  have Bx0_c1 := Bx0_14.out.c1
  go_wp2_with fail
  clear B0_c0 B0_c1
  clear Bx0_c0 Bx0_c1
  refine (show Calls _ _ _ _ _ from toInts_row r2 W14 A2_14.out.at hs2).mono ?_
  rintro e W15 ⟨y2, rfl, hk, -, -, hi, hb⟩
  have hky2 := Lib.hid hk
  clear hk
  have A0_15 := Lib.hid (A0_14.out.on hb)
  have A1_15 := Lib.hid (A1_14.out.on hb)
  have A2_15 := Lib.hid (A2_14.out.on hb)
  have B0_15 := Lib.hid (B0_14.out.on hb)
  have Ix0_15 := Lib.hid (Ix0_14.out.on hb)
  have Ox0_15 := Lib.hid (Ox0_14.out.on hb)
  have Bx0_15 := Lib.hid (Bx0_14.out.on hb)
  have Ix1_15 := Lib.hid (Ix1_14.out.on hb)
  have Ox1_15 := Lib.hid (Ox1_14.out.on hb)
  have Ix2_15 := Lib.hid (Ix2_14.out.on hb)
  have Ox2_15 := Lib.hid (Ox2_14.out.on hb)
  clear A0_14
  clear A1_14
  clear A2_14
  clear B0_14
  clear Ix0_14
  clear Ox0_14
  clear Bx0_14
  clear Ix1_14
  clear Ox1_14
  clear Ix2_14
  clear Ox2_14
  have hB_15 := hB_14.trans (hb.mono hB_14.size)
  have hz_15 := hb.size
  clear hB_14 hb
  have hyx2 := eqRow_law x2 y2 W15 Ix2_15.out.at hi.at (hkx2.out.trans hky2.out.symm) (by rw [hkx2.out]; exact hs2)
  clear hi
  have B0_c0 := B0_15.out.c0
  have B0_c1 := B0_15.out.c1
  have Bx0_c0 := Bx0_15.out.c0
  have Bx0_c1 := Bx0_15.out.c1
  go_wp2_with fail
  clear B0_c0 B0_c1
  clear Bx0_c0 Bx0_c1
  refine (show Calls _ _ _ _ _ from hyx2).mono ?_
  rintro e W16 ⟨rfl, hb⟩
  clear hyx2
  have A0_16 := Lib.hid (A0_15.out.on hb)
  have A1_16 := Lib.hid (A1_15.out.on hb)
  have A2_16 := Lib.hid (A2_15.out.on hb)
  have B0_16 := Lib.hid (B0_15.out.on hb)
  have Ix0_16 := Lib.hid (Ix0_15.out.on hb)
  have Ox0_16 := Lib.hid (Ox0_15.out.on hb)
  have Bx0_16 := Lib.hid (Bx0_15.out.on hb)
  have Ix1_16 := Lib.hid (Ix1_15.out.on hb)
  have Ox1_16 := Lib.hid (Ox1_15.out.on hb)
  have Ix2_16 := Lib.hid (Ix2_15.out.on hb)
  have Ox2_16 := Lib.hid (Ox2_15.out.on hb)
  clear A0_15
  clear A1_15
  clear A2_15
  clear B0_15
  clear Ix0_15
  clear Ox0_15
  clear Bx0_15
  clear Ix1_15
  clear Ox1_15
  clear Ix2_15
  clear Ox2_15
  have hB_16 := hB_15.trans (hb.mono hB_15.size)
  have hz_16 := hb.size
  clear hB_15 hb
  have B0_c0 := B0_16.out.c0
  have B0_c1 := B0_16.out.c1
  have Bx0_c0 := Bx0_16.out.c0
  have Bx0_c1 := Bx0_16.out.c1
  go_wp2_with fail
  clear B0_c0 B0_c1
  clear Bx0_c0 Bx0_c1
  go_ret
  exact ⟨rfl, hB_16⟩

/- The row's step. -/
set_option maxRecDepth 100000 in
set_option maxHeartbeats 4000000 in
theorem lifted (os : Os) (started : os.Started) (H : Type) (enc : TypeId × Value → H) :
    ReturnsInHanded {} Try.checked os 4 .any (Rows.fnExactOrderedValueSpec.pre6 enc Try.prog Try.f4 Rows.fnExactOrderedValueRow.domain false) (Rows.fnExactOrderedValueSpec.post enc Try.prog Try.f4 false true false false) := by
  refine returnsInHanded_of_change_shaped (C := Try.checked) own started (by kernel_rfl) Try.func4
    (ChangeSpec.witness6 (enc := enc) (C := Try.checked) false ⟨#[], #[.agg #[.slice none 0 0, .slice none 0 0], .slice none 0 0, .slice none 0 0], []⟩ 8 (by kernel_rfl) (by kernel_rfl) (by kernel_rfl) (by kernel_rfl)) ?_
  intro W base args ds gs before hval0 hW hcnd hsz0 hShape _
  have hval : ∀ (j : Nat) t v, Try.f4.params[j]? = some t → args[j]? = some v → Value.okWide Try.prog W .any base t v := hval0
  have hW' := hW
  obtain ⟨p, q, hA0, hV, rfl, hfz, hnd⟩ := hW
  have hA : DataW.TrodAll enc Try.prog W 0 (fun _ => true) true Try.f4.params.toList args.toList ds p := hA0
  rw [Try.params4] at hA hval
  obtain ⟨v0, vs0, d0, ds0, p0, q0, hargs, rfl, rfl, h0, more0⟩ := trodAll_cons hA
  obtain ⟨v1, vs1, d1, ds1, p1, q1, rfl, rfl, rfl, h1, more1⟩ := trodAll_cons more0
  obtain ⟨v2, vs2, d2, ds2, p2, q2, rfl, rfl, rfl, h2, more2⟩ := trodAll_cons more1
  obtain ⟨rfl, rfl, rfl⟩ := trodAll_nil more2
  obtain rfl : args = #[v0, v1, v2] := by cases args; simp_all
  obtain ⟨rfl, rfl⟩ := trodVars_none hV
  have k0 := h0
  have lt0 : ∀ x ∈ p0, x.block < W.heap.size := by obtain ⟨m, hm⟩ := k0; exact DataW.trod_lt m _ _ _ hm
  obtain ⟨F0, rfl, w0⟩ := open_fld (P := Try.prog) (W := W) Try.underlying25 (by kernel_rfl) (by kernel_rfl) rfl rfl Try.underlying22 Try.underlying3 (by kernel_rfl) Try.underlying23 Try.underlying22 (by kernel_rfl) (hval 0 25 v0 rfl rfl) h0
  have k1 := h1
  have lt1 : ∀ x ∈ p1, x.block < W.heap.size := by obtain ⟨m, hm⟩ := k1; exact DataW.trod_lt m _ _ _ hm
  obtain ⟨r1, rfl, w1⟩ := open_row (P := Try.prog) (W := W) Try.underlying22 Try.underlying3 (by kernel_rfl) (hval 1 22 v1 rfl rfl) h1
  have k2 := h2
  have lt2 : ∀ x ∈ p2, x.block < W.heap.size := by obtain ⟨m, hm⟩ := k2; exact DataW.trod_lt m _ _ _ hm
  obtain ⟨r2, rfl, w2⟩ := open_row (P := Try.prog) (W := W) Try.underlying22 Try.underlying3 (by kernel_rfl) (hval 2 22 v2 rfl rfl) h2
  clear hA0 hval0
  refine (walk W F0 w0 r1 w1 r2 w2 ).mono fun e W' ⟨he, bel⟩ => ?_
  subst he
  exact ⟨_, rfl, _, _, _, [], _, [], hW', trodAll_mk1 (shut_bool Try.underlying4 _), (trodAll_cons_mk (Below.trod laidOut (by kernel_rfl) (of_decide_eq_true (by kernel_rfl)) k0 bel lt0) (trodAll_cons_mk (Below.trod laidOut (by kernel_rfl) (of_decide_eq_true (by kernel_rfl)) k1 bel lt1) (trodAll_cons_mk (Below.trod laidOut (by kernel_rfl) (of_decide_eq_true (by kernel_rfl)) k2 bel lt2) trodAll_mk0))), rfl, bel.frame _, fun h => by cases h⟩

theorem over : Rows.fnExactOrderedValueRow.holds Try.pinned (OpenSpec.ofChange Rows.fnExactOrderedValueSpec) :=
  OpenClaim.holds_of_wide 4 Try.f4 rfl rfl rfl rfl rfl rfl rfl ⟨rfl, rfl, rfl, rfl, rfl⟩ rfl rfl rfl rfl rfl (by kernel_rfl) Try.func4 (by kernel_rfl)
    (of_decide_eq_true (by kernel_rfl)) (by unfold Func.isWrapper; first | (rw [if_pos (by decide +kernel)]; kernel_rfl) | (rw [if_neg (by decide +kernel)]; exact ⟨rfl, rfl⟩))
    (fun os started H enc _ => lifted os started H enc)

/-- The statement. -/
theorem proved : Rows.FnExactOrderedValueSaid :=
  over
#print axioms proved
end Go.Proofs.Ytmcobaclagmaoaa.fnExactOrderedValue
