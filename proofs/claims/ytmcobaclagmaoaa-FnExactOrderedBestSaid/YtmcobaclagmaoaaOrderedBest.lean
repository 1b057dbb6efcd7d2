/- Proved here: called with any arguments, the law FnExactOrderedBest returns true and the arguments read afterwards as they read before: impl.OrderedBest answers as its model does, the first set of so many sites with the least ordered value.
   Conditions: none but the statement's own (the arguments can be read as data). -/
import Derived.Test.YtmcobaclagmaoaaRows
import Derived.WalkKit
import Derived.ProofKit
import Derived.OpenShut
import Derived.ShutString
import Derived.Below
import Derived.ChangeOld
import Derived.HandedShaped
import Derived.Test.YtmcobaclagmaoaaOpen
import Derived.Test.YtmcobaclagmaoaaPairOrderedBest
namespace Go.Proofs.Ytmcobaclagmaoaa.fnExactOrderedBest
open Go.ChangeShapes Go.WideShapes Go.ChangeAt Go.RowKit
open Go.ChangeMaps (open_string shut_string)
set_option linter.unusedVariables false

theorem own : ownKnob Try.prog.godebug = none := by kernel_rfl
theorem laidOut : laidOutB Try.prog = true := by kernel_rfl
/- The walk of the law's body. -/
set_option maxRecDepth 100000 in
set_option maxHeartbeats 1500000 in
theorem walk (W : World) (F0 : Fld) (w0 : F0.At W) (a1 : Int) (w1 : (Lit.int .i64 a1).wf = true) (r2 : Row) (w2 : r2.At W)  :
    Calls Try.prog 5 #[F0.val, .int .i64 a1, r2.val] W fun e w' => e = .returned (.bool true) ∧ Below W.heap.size W w' := by
  have hB_0 := Below.refl W.heap.size W
  have hlim2 : (r2.l.length : Int) ≤ 9223372036854775807 := by obtain ⟨q1, q2, _⟩ := w2; rw [iv_length] at q1; unfold maxLen at q2; omega
  have A0_0 := Lib.hid w0.in
  clear w0
  have A2_0 := Lib.hid w2.in
  clear w2
  by_cases hbig2 : (1048576 : Int) < r2.l.length
  · show Calls _ _ #[.agg #[F0.o.val, F0.t.val], .int .i64 a1, .slice r2.a r2.l.length r2.c] _ _
    go_enter Try.func5, Try.ntmps5
    go_wp2
    go_ret
    exact ⟨rfl, below_alloc _ _⟩
  have hs2 : r2.l.length ≤ 1048576 := by omega
  show Calls _ _ #[.agg #[F0.o.val, F0.t.val], .int .i64 a1, .slice r2.a r2.l.length r2.c] _ _
  go_enter Try.func5, Try.ntmps5
  go_wp2_with fail
  obtain ⟨W1, hW⟩ : ∃ u, u = (W.alloc (Obj.cells #[F0.o.val, F0.t.val] 25)) := ⟨_, rfl⟩
  rw [show (W.alloc (Obj.cells #[F0.o.val, F0.t.val] 25)) = W1 from hW.symm]
  have hb : Below W.heap.size W W1 := by rw [hW]; exact below_alloc _ _
  have hbx : Box2 W1 W.heap.size (F0.o.val) (F0.t.val) 25 := by rw [hW]; exact Box2.made _ _ _ _ 
  have hsx : W1.heap.size = W.heap.size + 1 := by rw [hW]; exact size_alloc _ _
  clear hW
  have A0_1 := Lib.hid (A0_0.out.on hb)
  have A2_1 := Lib.hid (A2_0.out.on hb)
  clear A0_0
  clear A2_0
  have hB_1 := hB_0.trans (hb.mono hB_0.size)
  have hz_1 := hb.size
  clear hB_0 hb
  have B0_1 := Lib.hid hbx
  clear hbx
  have hzx_1 := Nat.le_of_eq hsx
  have hzy_1 := Nat.le_of_eq hsx.symm
  clear hsx
  refine (show Calls _ _ _ _ _ from szFld_any F0 1048576 W1 A0_1.out.at (by omega) (by omega)).mono ?_
  rintro e W2 ⟨⟨left0, rfl, hl0, hm0⟩, hb⟩
  have A0_2 := Lib.hid (A0_1.out.on hb)
  have A2_2 := Lib.hid (A2_1.out.on hb)
  have B0_2 := Lib.hid (B0_1.out.on hb)
  clear A0_1
  clear A2_1
  clear B0_1
  have hB_2 := hB_1.trans (hb.mono hB_1.size)
  have hz_2 := hb.size
  clear hB_1 hb
  by_cases hng0 : left0 < 0
  · go_wp2
    go_ret
    exact ⟨rfl, hB_2⟩
  have hs0 : F0.Small := by unfold Fld.Small; have := hl0 (by omega); omega
  have hle0 : left0 ≤ 1048576 := hm0
  obtain ⟨v, b, hvs, cs, ci⟩ := orderedBest_pair F0 a1 r2 w1 hs0 hs2
  have CS := Lib.hid cs
  have CI := Lib.hid ci
  clear cs ci
  have B0_c0 := B0_2.out.c0
  have B0_c1 := B0_2.out.c1
  go_wp2_with fail
  clear B0_c0 B0_c1
  refine (show Calls _ _ _ _ _ from toFld_law F0 W2 A0_2.out.at hs0).mono ?_
  rintro e W3 ⟨c0, rfl, hkc0, ho, hi, hb⟩
  have A0_3 := Lib.hid (A0_2.out.on hb)
  have A2_3 := Lib.hid (A2_2.out.on hb)
  have B0_3 := Lib.hid (B0_2.out.on hb)
  clear A0_2
  clear A2_2
  clear B0_2
  have hB_3 := hB_2.trans (hb.mono hB_2.size)
  have hz_3 := hb.size
  clear hB_2 hb
  have Ic0_3 := Lib.hid hi
  have Oc0_3 := Lib.hid ho
  clear hi ho
  have B0_c0 := B0_3.out.c0
  have B0_c1 := B0_3.out.c1
  go_wp2_with fail
  clear B0_c0 B0_c1
  refine (show Calls _ _ _ _ _ from toInts_row r2 W3 A2_3.out.at hs2).mono ?_
  rintro e W4 ⟨c2, rfl, hk, -, ho, hi, hb⟩
  have hkc2 := Lib.hid hk
  clear hk
  have A0_4 := Lib.hid (A0_3.out.on hb)
  have A2_4 := Lib.hid (A2_3.out.on hb)
  have B0_4 := Lib.hid (B0_3.out.on hb)
  have Ic0_4 := Lib.hid (Ic0_3.out.on hb)
  have Oc0_4 := Lib.hid (Oc0_3.out.on hb)
  clear A0_3
  clear A2_3
  clear B0_3
  clear Ic0_3
  clear Oc0_3
  have hB_4 := hB_3.trans (hb.mono hB_3.size)
  have hz_4 := hb.size
  clear hB_3 hb
  have Ic2_4 := Lib.hid hi
  have Oc2_4 := Lib.hid ho
  clear hi ho
  have B0_c0 := B0_4.out.c0
  have B0_c1 := B0_4.out.c1
  go_wp2_with fail
  clear B0_c0 B0_c1
  refine (show Calls _ _ _ _ _ from CS.out c0 c2 W4 Ic0_4.out.at Ic2_4.out.at hkc0 hkc2.out).mono ?_
  rintro e W5 ⟨gs, rfl, hk, ho, hi, hb⟩
  have hkgs := Lib.hid hk
  clear hk
  have A0_5 := Lib.hid (A0_4.out.on hb)
  have A2_5 := Lib.hid (A2_4.out.on hb)
  have B0_5 := Lib.hid (B0_4.out.on hb)
  have Ic0_5 := Lib.hid (Ic0_4.out.on hb)
  have Oc0_5 := Lib.hid (Oc0_4.out.on hb)
  have Ic2_5 := Lib.hid (Ic2_4.out.on hb)
  have Oc2_5 := Lib.hid (Oc2_4.out.on hb)
  clear A0_4
  clear A2_4
  clear B0_4
  clear Ic0_4
  clear Oc0_4
  clear Ic2_4
  clear Oc2_4
  have hB_5 := hB_4.trans (hb.mono hB_4.size)
  have hz_5 := hb.size
  clear hB_4 hb
  have Igs_5 := Lib.hid hi
  have Ogs_5 := Lib.hid ho
  clear hi ho
  clear Oc0_5
  clear Ic0_5
  clear Oc2_5
  clear Ic2_5
  clear Ogs_5
  have B0_c0 := B0_5.out.c0
  have B0_c1 := B0_5.out.c1
  go_wp2_with fail
  clear B0_c0 B0_c1
  refine (show Calls _ _ _ _ _ from toFld_law F0 W5 A0_5.out.at hs0).mono ?_
  rintro e W6 ⟨x0, rfl, hkx0, ho, hi, hb⟩
  have A0_6 := Lib.hid (A0_5.out.on hb)
  have A2_6 := Lib.hid (A2_5.out.on hb)
  have B0_6 := Lib.hid (B0_5.out.on hb)
  have Igs_6 := Lib.hid (Igs_5.out.on hb)
  clear A0_5
  clear A2_5
  clear B0_5
  clear Igs_5
  have hB_6 := hB_5.trans (hb.mono hB_5.size)
  have hz_6 := hb.size
  clear hB_5 hb
  have Ix0_6 := Lib.hid hi
  have Ox0_6 := Lib.hid ho
  clear hi ho
  have B0_c0 := B0_6.out.c0
  have B0_c1 := B0_6.out.c1
  go_wp2_with fail
  clear B0_c0 B0_c1
  obtain ⟨W7, hW⟩ : ∃ u, u = boxed W6 (.slice x0.o.a x0.o.l.length x0.o.c) (.slice x0.t.a x0.t.R.length x0.t.c) := ⟨_, rfl⟩
  rw [show W6.alloc (Obj.cells #[.slice x0.o.a x0.o.l.length x0.o.c, .slice x0.t.a x0.t.R.length x0.t.c] 29) = W7 from hW.symm]
  have hb : Below W6.heap.size W6 W7 := by rw [hW]; exact boxed_below _ _ _ 
  have hbx : Box2 W7 W6.heap.size (.slice x0.o.a x0.o.l.length x0.o.c) (.slice x0.t.a x0.t.R.length x0.t.c) 29 := by rw [hW]; exact boxed_box _ _ _ 
  have hsx : W7.heap.size = W6.heap.size + 1 := by rw [hW]; exact boxed_size _ _ _ 
  clear hW
  have A0_7 := Lib.hid (A0_6.out.on hb)
  have A2_7 := Lib.hid (A2_6.out.on hb)
  have B0_7 := Lib.hid (B0_6.out.on hb)
  have Igs_7 := Lib.hid (Igs_6.out.on hb)
  have Ix0_7 := Lib.hid (Ix0_6.out.on hb)
  have Ox0_7 := Lib.hid (Ox0_6.out.on hb)
  clear A0_6
  clear A2_6
  clear B0_6
  clear Igs_6
  clear Ix0_6
  clear Ox0_6
  have hB_7 := hB_6.trans (hb.mono hB_6.size)
  have hz_7 := hb.size
  clear hB_6 hb
  have Bx0_7 := Lib.hid hbx
  clear hbx
  have hzx_7 := Nat.le_of_eq hsx
  have hzy_7 := Nat.le_of_eq hsx.symm
  clear hsx
  refine (show Calls _ _ _ _ _ from toInts_row r2 W7 A2_7.out.at hs2).mono ?_
  rintro e W8 ⟨x2, rfl, hk, -, ho, hi, hb⟩
  have hkx2 := Lib.hid hk
  clear hk
  have A0_8 := Lib.hid (A0_7.out.on hb)
  have A2_8 := Lib.hid (A2_7.out.on hb)
  have B0_8 := Lib.hid (B0_7.out.on hb)
  have Igs_8 := Lib.hid (Igs_7.out.on hb)
  have Ix0_8 := Lib.hid (Ix0_7.out.on hb)
  have Ox0_8 := Lib.hid (Ox0_7.out.on hb)
  have Bx0_8 := Lib.hid (Bx0_7.out.on hb)
  clear A0_7
  clear A2_7
  clear B0_7
  clear Igs_7
  clear Ix0_7
  clear Ox0_7
  clear Bx0_7
  have hB_8 := hB_7.trans (hb.mono hB_7.size)
  have hz_8 := hb.size
  clear hB_7 hb
  have Ix2_8 := Lib.hid hi
  have Ox2_8 := Lib.hid ho
  clear hi ho
  have B0_c0 := B0_8.out.c0
  have B0_c1 := B0_8.out.c1
  have Bx0_c0 := Bx0_8.out.c0
  have Bx0_c1 := Bx0_8.out.c1
  go_wp2_with fail
  clear B0_c0 B0_c1
  clear Bx0_c0 Bx0_c1
  refine (show Calls _ _ _ _ _ from CI.out x0 x2 W8 Ix0_8.out.at Ix2_8.out.at hkx0 hkx2.out).mono ?_
  rintro e W9 ⟨gi, rfl, hk, ho, hi, hb⟩
  have hkgi := Lib.hid hk
  clear hk
  have A0_9 := Lib.hid (A0_8.out.on hb)
  have A2_9 := Lib.hid (A2_8.out.on hb)
  have B0_9 := Lib.hid (B0_8.out.on hb)
  have Igs_9 := Lib.hid (Igs_8.out.on hb)
  have Ix0_9 := Lib.hid (Ix0_8.out.on hb)
  have Ox0_9 := Lib.hid (Ox0_8.out.on hb)
  have Bx0_9 := Lib.hid (Bx0_8.out.on hb)
  have Ix2_9 := Lib.hid (Ix2_8.out.on hb)
  have Ox2_9 := Lib.hid (Ox2_8.out.on hb)
  clear A0_8
  clear A2_8
  clear B0_8
  clear Igs_8
  clear Ix0_8
  clear Ox0_8
  clear Bx0_8
  clear Ix2_8
  clear Ox2_8
  have hB_9 := hB_8.trans (hb.mono hB_8.size)
  have hz_9 := hb.size
  clear hB_8 hb
  have Igi_9 := Lib.hid hi
  have Ogi_9 := Lib.hid ho
  clear hi ho
  have B0_c0 := B0_9.out.c0
  have B0_c1 := B0_9.out.c1
  have Bx0_c0 := Bx0_9.out.c0
  have Bx0_c1 := Bx0_9.out.c1
  go_wp2_with fail
  clear B0_c0 B0_c1
  clear Bx0_c0 Bx0_c1
  refine (show Calls _ _ _ _ _ from eqRow_law gi gs W9 Igi_9.out.at Igs_9.out.at (hkgi.out.trans hkgs.out.symm) (by rw [hkgi.out]; exact hvs)).mono ?_
  rintro e W10 ⟨rfl, hb⟩
  have A0_10 := Lib.hid (A0_9.out.on hb)
  have A2_10 := Lib.hid (A2_9.out.on hb)
  have B0_10 := Lib.hid (B0_9.out.on hb)
  have Igs_10 := Lib.hid (Igs_9.out.on hb)
  have Ix0_10 := Lib.hid (Ix0_9.out.on hb)
  have Ox0_10 := Lib.hid (Ox0_9.out.on hb)
  have Bx0_10 := Lib.hid (Bx0_9.out.on hb)
  have Ix2_10 := Lib.hid (Ix2_9.out.on hb)
  have Ox2_10 := Lib.hid (Ox2_9.out.on hb)
  have Igi_10 := Lib.hid (Igi_9.out.on hb)
  have Ogi_10 := Lib.hid (Ogi_9.out.on hb)
  clear A0_9
  clear A2_9
  clear B0_9
  clear Igs_9
  clear Ix0_9
  clear Ox0_9
  clear Bx0_9
  clear Ix2_9
  clear Ox2_9
  clear Igi_9
  clear Ogi_9
  have hB_10 := hB_9.trans (hb.mono hB_9.size)
  have hz_10 := hb.size
  clear hB_9 hb
  have B0_c0 := B0_10.out.c0
  have B0_c1 := B0_10.out.c1
  have Bx0_c0 := Bx0_10.out.c0
  have Bx0_c1 := Bx0_10.out.c1
  go_wp2_with fail
  clear B0_c0 B0_c1
  clear Bx0_c0 Bx0_c1
  have HS : Hid (∀ u, Below W10.heap.size W10 u → ((u.cell? ⟨W.heap.size, 0, none⟩ = some (F0.o.val) ∧ u.cell? ⟨W.heap.size, 1, none⟩ = some (F0.t.val) ∧ u.cell? ⟨W6.heap.size, 0, none⟩ = some (.slice x0.o.a x0.o.l.length x0.o.c) ∧ u.cell? ⟨W6.heap.size, 1, none⟩ = some (.slice x0.t.a x0.t.R.length x0.t.c)) ∧ Below W10.heap.size W10 u)) := Lib.hid fun u hu => box_cells B0_10.out Bx0_10.out u hu
  have s0 := HS.out W10.drew (Below.refl _ _).drew
  have ct := Lib.hid fun u (hu : Below W10.heap.size W10 u) => toFld_law F0 u (A0_10.out.on hu).at hs0
  have ce := Lib.hid fun u (hu : Below W10.heap.size W10 u) (y : Fld) (hy : y.At u) (hky : y.Like F0) => eqFld_same x0 y u (Ix0_10.out.on hu).at hy (hkx0.trans hky.symm) (hs0.like hkx0.symm)
  go_region_held3 (fun u => ((u.cell? ⟨W.heap.size, 0, none⟩ = some (F0.o.val) ∧ u.cell? ⟨W.heap.size, 1, none⟩ = some (F0.t.val) ∧ u.cell? ⟨W6.heap.size, 0, none⟩ = some (.slice x0.o.a x0.o.l.length x0.o.c) ∧ u.cell? ⟨W6.heap.size, 1, none⟩ = some (.slice x0.t.a x0.t.R.length x0.t.c)) ∧ Below W10.heap.size W10 u)) (first | exact s0 | exact keep_reg HS.out (by first | assumption | exact And.right (by assumption)) hb1) (first | (go_at_call 8; refine (show Calls _ _ _ _ _ from ct.out _ (by first | assumption | exact And.right (by assumption))).mono ?_; rintro e u1 ⟨y, rfl, hky, _, hy, hb1⟩) | (go_at_call 11; refine (show Calls _ _ _ _ _ from ce.out _ (by first | assumption | exact And.right (by assumption)) y hy.at hky).mono ?_; rintro e u2 ⟨rfl, hb1⟩))
  refine at_exit (W := W10) (by first | assumption | exact And.right (by assumption)) ?_
  intro W11 hb
  clear HS s0 ct ce
  have A0_11 := Lib.hid (A0_10.out.on hb)
  have A2_11 := Lib.hid (A2_10.out.on hb)
  have B0_11 := Lib.hid (B0_10.out.on hb)
  have Igs_11 := Lib.hid (Igs_10.out.on hb)
  have Ix0_11 := Lib.hid (Ix0_10.out.on hb)
  have Ox0_11 := Lib.hid (Ox0_10.out.on hb)
  have Bx0_11 := Lib.hid (Bx0_10.out.on hb)
  have Ix2_11 := Lib.hid (Ix2_10.out.on hb)
  have Ox2_11 := Lib.hid (Ox2_10.out.on hb)
  have Igi_11 := Lib.hid (Igi_10.out.on hb)
  have Ogi_11 := Lib.hid (Ogi_10.out.on hb)
  clear A0_10
  clear A2_10
  clear B0_10
  clear Igs_10
  clear Ix0_10
  clear Ox0_10
  clear Bx0_10
  clear Ix2_10
  clear Ox2_10
  clear Igi_10
  clear Ogi_10
  have hB_11 := hB_10.trans (hb.mono hB_10.size)
  have hz_11 := hb.size
  clear hB_10 hb
  have B0_c0 := B0_11.out.c0
  have B0_c1 := B0_11.out.c1
  have Bx0_c0 := Bx0_11.out.c0
  have Bx0_c1 := Bx0_11.out.c1
  go_wp2_with fail
  clear B0_c0 B0_c1
  clear Bx0_c0 Bx0_c1
  refine (show Calls _ _ _ _ _ from toInts_row r2 W11 A2_11.out.at hs2).mono ?_
  rintro e W12 ⟨y2, rfl, hk, -, -, hi, hb⟩
  have hky2 := Lib.hid hk
  clear hk
  have A0_12 := Lib.hid (A0_11.out.on hb)
  have A2_12 := Lib.hid (A2_11.out.on hb)
  have B0_12 := Lib.hid (B0_11.out.on hb)
  have Igs_12 := Lib.hid (Igs_11.out.on hb)
  have Ix0_12 := Lib.hid (Ix0_11.out.on hb)
  have Ox0_12 := Lib.hid (Ox0_11.out.on hb)
  have Bx0_12 := Lib.hid (Bx0_11.out.on hb)
  have Ix2_12 := Lib.hid (Ix2_11.out.on hb)
  have Ox2_12 := Lib.hid (Ox2_11.out.on hb)
  have Igi_12 := Lib.hid (Igi_11.out.on hb)
  have Ogi_12 := Lib.hid (Ogi_11.out.on hb)
  clear A0_11
  clear A2_11
  clear B0_11
  clear Igs_11
  clear Ix0_11
  clear Ox0_11
  clear Bx0_11
  clear Ix2_11
  clear Ox2_11
  clear Igi_11
  clear Ogi_11
  have hB_12 := hB_11.trans (hb.mono hB_11.size)
  have hz_12 := hb.size
  clear hB_11 hb
  have hyx2 := eqRow_law x2 y2 W12 Ix2_12.out.at hi.at (hkx2.out.trans hky2.out.symm) (by rw [hkx2.out]; exact hs2)
  clear hi
  have B0_c0 := B0_12.out.c0
  have B0_c1 := B0_12.out.c1
  have Bx0_c0 := Bx0_12.out.c0
  have Bx0_c1 := Bx0_12.out.c1
  go_wp2_with fail
  clear B0_c0 B0_c1
  clear Bx0_c0 Bx0_c1
  refine (show Calls _ _ _ _ _ from hyx2).mono ?_
  rintro e W13 ⟨rfl, hb⟩
  clear hyx2
  have A0_13 := Lib.hid (A0_12.out.on hb)
  have A2_13 := Lib.hid (A2_12.out.on hb)
  have B0_13 := Lib.hid (B0_12.out.on hb)
  have Igs_13 := Lib.hid (Igs_12.out.on hb)
  have Ix0_13 := Lib.hid (Ix0_12.out.on hb)
  have Ox0_13 := Lib.hid (Ox0_12.out.on hb)
  have Bx0_13 := Lib.hid (Bx0_12.out.on hb)
  have Ix2_13 := Lib.hid (Ix2_12.out.on hb)
  have Ox2_13 := Lib.hid (Ox2_12.out.on hb)
  have Igi_13 := Lib.hid (Igi_12.out.on hb)
  have Ogi_13 := Lib.hid (Ogi_12.out.on hb)
  clear A0_12
  clear A2_12
  clear B0_12
  clear Igs_12
  clear Ix0_12
  clear Ox0_12
  clear Bx0_12
  clear Ix2_12
  clear Ox2_12
  clear Igi_12
  clear Ogi_12
  have hB_13 := hB_12.trans (hb.mono hB_12.size)
  have hz_13 := hb.size
  clear hB_12 hb
  have hs_x0 : x0.Small := hs0.like hkx0.symm
  have hz_x0 : x0.o.l.length + tot x0.t.con ≤ 1048576 := by have := hs_x0; unfold Fld.Small at this; omega
  obtain ⟨q0, hq0⟩ : ∃ q : Nat, q = 1 + x0.o.l.length + tot x0.t.con := ⟨_, rfl⟩
  have hiq0 : (q0 : Int) ≤ 1048577 := by omega
  have Hq0 := Lib.hid hq0
  clear hq0
  have B0_c0 := B0_13.out.c0
  have B0_c1 := B0_13.out.c1
  have Bx0_c0 := Bx0_13.out.c0
  have Bx0_c1 := Bx0_13.out.c1
  go_wp2_with fail
  clear B0_c0 B0_c1
  clear Bx0_c0 Bx0_c1
  refine (show Calls _ _ _ _ _ from markFld_law x0 1 q0 W13 _ _ Ix0_13.out Ox0_13.out hs_x0 (by omega) Hq0.out).mono ?_
  rintro e W14 ⟨rfl, hmk, ht⟩
  clear Ox0_13
  clear Ix0_13
  have A0_14 := Lib.hid (A0_13.out.touch ht (by first | exact .inl (by omega) | exact .inr (by omega)))
  have A2_14 := Lib.hid (A2_13.out.touch ht (by first | exact .inl (by omega) | exact .inr (by omega)))
  have B0_14 := Lib.hid (B0_13.out.touch ht (by first | exact .inl (by omega) | exact .inr (by omega)))
  have Igs_14 := Lib.hid (Igs_13.out.touch ht (by first | exact .inl (by omega) | exact .inr (by omega)))
  have Bx0_14 := Lib.hid (Bx0_13.out.touch ht (by first | exact .inl (by omega) | exact .inr (by omega)))
  have Ix2_14 := Lib.hid (Ix2_13.out.touch ht (by first | exact .inl (by omega) | exact .inr (by omega)))
  have Ox2_14 := Lib.hid (Ox2_13.out.touch Ix2_13.out ht (by first | exact .inl (by omega) | exact .inr (by omega)))
  have Igi_14 := Lib.hid (Igi_13.out.touch ht (by first | exact .inl (by omega) | exact .inr (by omega)))
  have Ogi_14 := Lib.hid (Ogi_13.out.touch Igi_13.out ht (by first | exact .inl (by omega) | exact .inr (by omega)))
  clear A0_13
  clear A2_13
  clear B0_13
  clear Igs_13
  clear Bx0_13
  clear Ix2_13
  clear Ox2_13
  clear Igi_13
  clear Ogi_13
  have hB_14 := hB_13.trans (ht.below (by omega) (by have := hB_13.size; omega))
  have hz_14 := ht.size
  clear hB_13 ht
  clear hmk
  have hs_x2 : x2.l.length ≤ 1048576 := by rw [hkx2.out]; exact hs2
  obtain ⟨q1, hq1⟩ : ∃ q : Nat, q = q0 + x2.l.length := ⟨_, rfl⟩
  have hiq1 : (q1 : Int) ≤ 2097153 := by omega
  have Hq1 := Lib.hid hq1
  clear hq1
  have B0_c0 := B0_14.out.c0
  have B0_c1 := B0_14.out.c1
  have Bx0_c0 := Bx0_14.out.c0
  have Bx0_c1 := Bx0_14.out.c1
  go_wp2_with fail
  clear B0_c0 B0_c1
  clear Bx0_c0 Bx0_c1
  refine (show Calls _ _ _ _ _ from markRow_law x2 q0 q1 W14 _ _ Ix2_14.out Ox2_14.out hs_x2 (by omega) Hq1.out).mono ?_
  rintro e W15 ⟨rfl, hmk, ht⟩
  clear Ox2_14
  clear Ix2_14
  have A0_15 := Lib.hid (A0_14.out.touch ht (by first | exact .inl (by omega) | exact .inr (by omega)))
  have A2_15 := Lib.hid (A2_14.out.touch ht (by first | exact .inl (by omega) | exact .inr (by omega)))
  have B0_15 := Lib.hid (B0_14.out.touch ht (by first | exact .inl (by omega) | exact .inr (by omega)))
  have Igs_15 := Lib.hid (Igs_14.out.touch ht (by first | exact .inl (by omega) | exact .inr (by omega)))
  have Bx0_15 := Lib.hid (Bx0_14.out.touch ht (by first | exact .inl (by omega) | exact .inr (by omega)))
  have Igi_15 := Lib.hid (Igi_14.out.touch ht (by first | exact .inl (by omega) | exact .inr (by omega)))
  have Ogi_15 := Lib.hid (Ogi_14.out.touch Igi_14.out ht (by first | exact .inl (by omega) | exact .inr (by omega)))
  clear A0_14
  clear A2_14
  clear B0_14
  clear Igs_14
  clear Bx0_14
  clear Igi_14
  clear Ogi_14
  have hB_15 := hB_14.trans (ht.below (by omega) (by have := hB_14.size; omega))
  have hz_15 := ht.size
  clear hB_14 ht
  clear hmk
  have hpos : ¬ (q1 : Int) < 0 := by omega
  have B0_c0 := B0_15.out.c0
  have B0_c1 := B0_15.out.c1
  have Bx0_c0 := Bx0_15.out.c0
  have Bx0_c1 := Bx0_15.out.c1
  go_wp2_with fail
  clear B0_c0 B0_c1
  clear Bx0_c0 Bx0_c1
  refine (show Calls _ _ _ _ _ from eqRow_law gi gs W15 Igi_15.out.at Igs_15.out.at (hkgi.out.trans hkgs.out.symm) (by rw [hkgi.out]; exact hvs)).mono ?_
  rintro e W16 ⟨rfl, hb⟩
  have A0_16 := Lib.hid (A0_15.out.on hb)
  have A2_16 := Lib.hid (A2_15.out.on hb)
  have B0_16 := Lib.hid (B0_15.out.on hb)
  have Igs_16 := Lib.hid (Igs_15.out.on hb)
  have Bx0_16 := Lib.hid (Bx0_15.out.on hb)
  have Igi_16 := Lib.hid (Igi_15.out.on hb)
  have Ogi_16 := Lib.hid (Ogi_15.out.on hb)
  clear A0_15
  clear A2_15
  clear B0_15
  clear Igs_15
  clear Bx0_15
  clear Igi_15
  clear Ogi_15
  have hB_16 := hB_15.trans (hb.mono hB_15.size)
  have hz_16 := hb.size
  clear hB_15 hb
  have hs_gi : gi.l.length ≤ 1048576 := by rw [hkgi.out]; exact hvs
  obtain ⟨p, hp⟩ : ∃ q : Nat, q = 1 + gi.l.length := ⟨_, rfl⟩
  have hip : (p : Int) ≤ 4194304 := by omega
  have hip0 : ¬ (p : Int) < 0 := by omega
  have Hp := Lib.hid hp
  clear hp
  have B0_c0 := B0_16.out.c0
  have B0_c1 := B0_16.out.c1
  have Bx0_c0 := Bx0_16.out.c0
  have Bx0_c1 := Bx0_16.out.c1
  go_wp2_with fail
  clear B0_c0 B0_c1
  clear Bx0_c0 Bx0_c1
  refine (show Calls _ _ _ _ _ from markRow_law gi 1 p W16 _ _ Igi_16.out Ogi_16.out hs_gi (by omega) Hp.out).mono ?_
  rintro e W17 ⟨rfl, hmk, ht⟩
  clear Ogi_16
  clear Igi_16
  have A0_17 := Lib.hid (A0_16.out.touch ht (by first | exact .inl (by omega) | exact .inr (by omega)))
  have A2_17 := Lib.hid (A2_16.out.touch ht (by first | exact .inl (by omega) | exact .inr (by omega)))
  have B0_17 := Lib.hid (B0_16.out.touch ht (by first | exact .inl (by omega) | exact .inr (by omega)))
  have Igs_17 := Lib.hid (Igs_16.out.touch ht (by first | exact .inl (by omega) | exact .inr (by omega)))
  have Bx0_17 := Lib.hid (Bx0_16.out.touch ht (by first | exact .inl (by omega) | exact .inr (by omega)))
  clear A0_16
  clear A2_16
  clear B0_16
  clear Igs_16
  clear Bx0_16
  have hB_17 := hB_16.trans (ht.below (by omega) (by have := hB_16.size; omega))
  have hz_17 := ht.size
  clear hB_16 ht
  have Mgi_17 := Lib.hid hmk
  clear hmk
  have B0_c0 := B0_17.out.c0
  have B0_c1 := B0_17.out.c1
  have Bx0_c0 := Bx0_17.out.c0
  have Bx0_c1 := Bx0_17.out.c1
  go_wp2_with fail
  clear B0_c0 B0_c1
  clear Bx0_c0 Bx0_c1
  refine (show Calls _ _ _ _ _ from heldRow_law gi 1 p W17 _ _ Mgi_17.out hs_gi (by omega) Hp.out).mono ?_
  rintro e W18 ⟨rfl, hb⟩
  have A0_18 := Lib.hid (A0_17.out.on hb)
  have A2_18 := Lib.hid (A2_17.out.on hb)
  have B0_18 := Lib.hid (B0_17.out.on hb)
  have Igs_18 := Lib.hid (Igs_17.out.on hb)
  have Bx0_18 := Lib.hid (Bx0_17.out.on hb)
  have Mgi_18 := Lib.hid (Mgi_17.out.on hb)
  clear A0_17
  clear A2_17
  clear B0_17
  clear Igs_17
  clear Bx0_17
  clear Mgi_17
  have hB_18 := hB_17.trans (hb.mono hB_17.size)
  have hz_18 := hb.size
  clear hB_17 hb
  have B0_c0 := B0_18.out.c0
  have B0_c1 := B0_18.out.c1
  have Bx0_c0 := Bx0_18.out.c0
  have Bx0_c1 := Bx0_18.out.c1
  go_wp2_with fail
  clear B0_c0 B0_c1
  clear Bx0_c0 Bx0_c1
  refine (show Calls _ _ _ _ _ from toFld_law F0 W18 A0_18.out.at hs0).mono ?_
  rintro e W19 ⟨z0, rfl, hkz0, ho, hi, hb⟩
  have A0_19 := Lib.hid (A0_18.out.on hb)
  have A2_19 := Lib.hid (A2_18.out.on hb)
  have B0_19 := Lib.hid (B0_18.out.on hb)
  have Igs_19 := Lib.hid (Igs_18.out.on hb)
  have Bx0_19 := Lib.hid (Bx0_18.out.on hb)
  have Mgi_19 := Lib.hid (Mgi_18.out.on hb)
  clear A0_18
  clear A2_18
  clear B0_18
  clear Igs_18
  clear Bx0_18
  clear Mgi_18
  have hB_19 := hB_18.trans (hb.mono hB_18.size)
  have hz_19 := hb.size
  clear hB_18 hb
  have Iz0_19 := Lib.hid hi
  have Oz0_19 := Lib.hid ho
  clear hi ho
  have B0_c0 := B0_19.out.c0
  have B0_c1 := B0_19.out.c1
  have Bx0_c0 := Bx0_19.out.c0
  have Bx0_c1 := Bx0_19.out.c1
  go_wp2_with fail
  clear B0_c0 B0_c1
  clear Bx0_c0 Bx0_c1
  refine (show Calls _ _ _ _ _ from toInts_row r2 W19 A2_19.out.at hs2).mono ?_
  rintro e W20 ⟨z2, rfl, hk, -, ho, hi, hb⟩
  have hkz2 := Lib.hid hk
  clear hk
  have A0_20 := Lib.hid (A0_19.out.on hb)
  have A2_20 := Lib.hid (A2_19.out.on hb)
  have B0_20 := Lib.hid (B0_19.out.on hb)
  have Igs_20 := Lib.hid (Igs_19.out.on hb)
  have Bx0_20 := Lib.hid (Bx0_19.out.on hb)
  have Mgi_20 := Lib.hid (Mgi_19.out.on hb)
  have Iz0_20 := Lib.hid (Iz0_19.out.on hb)
  have Oz0_20 := Lib.hid (Oz0_19.out.on hb)
  clear A0_19
  clear A2_19
  clear B0_19
  clear Igs_19
  clear Bx0_19
  clear Mgi_19
  clear Iz0_19
  clear Oz0_19
  have hB_20 := hB_19.trans (hb.mono hB_19.size)
  have hz_20 := hb.size
  clear hB_19 hb
  have Iz2_20 := Lib.hid hi
  have Oz2_20 := Lib.hid ho
  clear hi ho
  have B0_c0 := B0_20.out.c0
  have B0_c1 := B0_20.out.c1
  have Bx0_c0 := Bx0_20.out.c0
  have Bx0_c1 := Bx0_20.out.c1
  go_wp2_with fail
  clear B0_c0 B0_c1
  clear Bx0_c0 Bx0_c1
  refine (show Calls _ _ _ _ _ from CI.out z0 z2 W20 Iz0_20.out.at Iz2_20.out.at hkz0 hkz2.out).mono ?_
  rintro e W21 ⟨gz, rfl, hk, ho, hi, hb⟩
  have hkgz := Lib.hid hk
  clear hk
  have A0_21 := Lib.hid (A0_20.out.on hb)
  have A2_21 := Lib.hid (A2_20.out.on hb)
  have B0_21 := Lib.hid (B0_20.out.on hb)
  have Igs_21 := Lib.hid (Igs_20.out.on hb)
  have Bx0_21 := Lib.hid (Bx0_20.out.on hb)
  have Mgi_21 := Lib.hid (Mgi_20.out.on hb)
  have Iz0_21 := Lib.hid (Iz0_20.out.on hb)
  have Oz0_21 := Lib.hid (Oz0_20.out.on hb)
  have Iz2_21 := Lib.hid (Iz2_20.out.on hb)
  have Oz2_21 := Lib.hid (Oz2_20.out.on hb)
  clear A0_20
  clear A2_20
  clear B0_20
  clear Igs_20
  clear Bx0_20
  clear Mgi_20
  clear Iz0_20
  clear Oz0_20
  clear Iz2_20
  clear Oz2_20
  have hB_21 := hB_20.trans (hb.mono hB_20.size)
  have hz_21 := hb.size
  clear hB_20 hb
  have Igz_21 := Lib.hid hi
  have Ogz_21 := Lib.hid ho
  clear hi ho
  clear Oz0_21
  clear Iz0_21
  clear Oz2_21
  clear Iz2_21
  have B0_c0 := B0_21.out.c0
  have B0_c1 := B0_21.out.c1
  have Bx0_c0 := Bx0_21.out.c0
  have Bx0_c1 := Bx0_21.out.c1
  go_wp2_with fail
  clear B0_c0 B0_c1
  clear Bx0_c0 Bx0_c1
  refine (show Calls _ _ _ _ _ from eqRow_law gz gs W21 Igz_21.out.at Igs_21.out.at (hkgz.out.trans hkgs.out.symm) (by rw [hkgz.out]; exact hvs)).mono ?_
  rintro e W22 ⟨rfl, hb⟩
  have A0_22 := Lib.hid (A0_21.out.on hb)
  have A2_22 := Lib.hid (A2_21.out.on hb)
  have B0_22 := Lib.hid (B0_21.out.on hb)
  have Igs_22 := Lib.hid (Igs_21.out.on hb)
  have Bx0_22 := Lib.hid (Bx0_21.out.on hb)
  have Mgi_22 := Lib.hid (Mgi_21.out.on hb)
  have Igz_22 := Lib.hid (Igz_21.out.on hb)
  have Ogz_22 := Lib.hid (Ogz_21.out.on hb)
  clear A0_21
  clear A2_21
  clear B0_21
  clear Igs_21
  clear Bx0_21
  clear Mgi_21
  clear Igz_21
  clear Ogz_21
  have hB_22 := hB_21.trans (hb.mono hB_21.size)
  have hz_22 := hb.size
  clear hB_21 hb
  have B0_c0 := B0_22.out.c0
  have B0_c1 := B0_22.out.c1
  have Bx0_c0 := Bx0_22.out.c0
  have Bx0_c1 := Bx0_22.out.c1
  go_wp2_with fail
  clear B0_c0 B0_c1
  clear Bx0_c0 Bx0_c1
  refine (show Calls _ _ _ _ _ from heldRow_law gi 1 p W22 _ _ Mgi_22.out hs_gi (by omega) Hp.out).mono ?_
  rintro e W23 ⟨rfl, hb⟩
  have A0_23 := Lib.hid (A0_22.out.on hb)
  have A2_23 := Lib.hid (A2_22.out.on hb)
  have B0_23 := Lib.hid (B0_22.out.on hb)
  have Igs_23 := Lib.hid (Igs_22.out.on hb)
  have Bx0_23 := Lib.hid (Bx0_22.out.on hb)
  have Mgi_23 := Lib.hid (Mgi_22.out.on hb)
  have Igz_23 := Lib.hid (Igz_22.out.on hb)
  have Ogz_23 := Lib.hid (Ogz_22.out.on hb)
  clear A0_22
  clear A2_22
  clear B0_22
  clear Igs_22
  clear Bx0_22
  clear Mgi_22
  clear Igz_22
  clear Ogz_22
  have hB_23 := hB_22.trans (hb.mono hB_22.size)
  have hz_23 := hb.size
  clear hB_22 hb
  have B0_c0 := B0_23.out.c0
  have B0_c1 := B0_23.out.c1
  have Bx0_c0 := Bx0_23.out.c0
  have Bx0_c1 := Bx0_23.out.c1
  go_wp2_with fail
  clear B0_c0 B0_c1
  clear Bx0_c0 Bx0_c1
  go_ret
  exact ⟨rfl, hB_23⟩

/- The row's step. -/
set_option maxRecDepth 100000 in
set_option maxHeartbeats 4000000 in
theorem lifted (os : Os) (started : os.Started) (H : Type) (enc : TypeId × Value → H) :
    ReturnsInHanded {} Try.checked os 5 .any (Rows.fnExactOrderedBestSpec.pre6 enc Try.prog Try.f5 Rows.fnExactOrderedBestRow.domain false) (Rows.fnExactOrderedBestSpec.post enc Try.prog Try.f5 false true false false) := by
  refine returnsInHanded_of_change_shaped (C := Try.checked) own started (by kernel_rfl) Try.func5
    (ChangeSpec.witness6 (enc := enc) (C := Try.checked) false ⟨#[], #[.agg #[.slice none 0 0, .slice none 0 0], .int .i64 0, .slice none 0 0], []⟩ 8 (by kernel_rfl) (by kernel_rfl) (by kernel_rfl) (by kernel_rfl)) ?_
  intro W base args ds gs before hval0 hW hcnd hsz0 hShape _
  have hval : ∀ (j : Nat) t v, Try.f5.params[j]? = some t → args[j]? = some v → Value.okWide Try.prog W .any base t v := hval0
  have hW' := hW
  obtain ⟨p, q, hA0, hV, rfl, hfz, hnd⟩ := hW
  have hA : DataW.TrodAll enc Try.prog W 0 (fun _ => true) true Try.f5.params.toList args.toList ds p := hA0
  rw [Try.params5] at hA hval
  obtain ⟨v0, vs0, d0, ds0, p0, q0, hargs, rfl, rfl, h0, more0⟩ := trodAll_cons hA
  obtain ⟨v1, vs1, d1, ds1, p1, q1, rfl, rfl, rfl, h1, more1⟩ := trodAll_cons more0
  obtain ⟨v2, vs2, d2, ds2, p2, q2, rfl, rfl, rfl, h2, more2⟩ := trodAll_cons more1
  obtain ⟨rfl, rfl, rfl⟩ := trodAll_nil more2
  obtain rfl : args = #[v0, v1, v2] := by cases args; simp_all
  obtain ⟨rfl, rfl⟩ := trodVars_none hV
  have k0 := h0
  have lt0 : ∀ x ∈ p0, x.block < W.heap.size := by obtain ⟨m, hm⟩ := k0; exact DataW.trod_lt m _ _ _ hm
  obtain ⟨F0, rfl, w0⟩ := open_fld (P := Try.prog) (W := W) Try.underlying25 (by kernel_rfl) (by kernel_rfl) rfl rfl Try.underlying22 Try.underlying3 (by kernel_rfl) Try.underlying23 Try.underlying22 (by kernel_rfl) (hval 0 25 v0 rfl rfl) h0
  obtain ⟨a1, rfl, rfl, rfl, w1⟩ := open_int Try.underlying3 (hval 1 3 v1 rfl rfl) h1
  have k2 := h2
  have lt2 : ∀ x ∈ p2, x.block < W.heap.size := by obtain ⟨m, hm⟩ := k2; exact DataW.trod_lt m _ _ _ hm
  obtain ⟨r2, rfl, w2⟩ := open_row (P := Try.prog) (W := W) Try.underlying22 Try.underlying3 (by kernel_rfl) (hval 2 22 v2 rfl rfl) h2
  clear hA0 hval0
  refine (walk W F0 w0 a1 w1 r2 w2 ).mono fun e W' ⟨he, bel⟩ => ?_
  subst he
  exact ⟨_, rfl, _, _, _, [], _, [], hW', trodAll_mk1 (shut_bool Try.underlying4 _), (trodAll_cons_mk (Below.trod laidOut (by kernel_rfl) (of_decide_eq_true (by kernel_rfl)) k0 bel lt0) (trodAll_cons_mk (shut_int Try.underlying3 w1) (trodAll_cons_mk (Below.trod laidOut (by kernel_rfl) (of_decide_eq_true (by kernel_rfl)) k2 bel lt2) trodAll_mk0))), rfl, bel.frame _, fun h => by cases h⟩

theorem over : Rows.fnExactOrderedBestRow.holds Try.pinned (OpenSpec.ofChange Rows.fnExactOrderedBestSpec) :=
  OpenClaim.holds_of_wide 5 Try.f5 rfl rfl rfl rfl rfl rfl rfl ⟨rfl, rfl, rfl, rfl, rfl⟩ rfl rfl rfl rfl rfl (by kernel_rfl) Try.func5 (by kernel_rfl)
    (of_decide_eq_true (by kernel_rfl)) (by unfold Func.isWrapper; first | (rw [if_pos (by decide +kernel)]; kernel_rfl) | (rw [if_neg (by decide +kernel)]; exact ⟨rfl, rfl⟩))
    (fun os started H enc _ => lifted os started H enc)

/-- The statement. -/
theorem proved : Rows.FnExactOrderedBestSaid :=
  over
#print axioms proved
end Go.Proofs.Ytmcobaclagmaoaa.fnExactOrderedBest
