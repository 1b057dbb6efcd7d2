/- Proved here: called with any arguments, the law FnExactLineSites returns true and the arguments read afterwards as they read before: impl.LineSites answers as its model does, at every line and radius and at every list that is no line.
   Conditions: none but the statement's own (the arguments can be read as data). -/
import Derived.Test.YtfgedolngcdjpaaRows
import Derived.WalkKit
import Derived.ProofKit
import Derived.OpenShut
import Derived.ShutString
import Derived.Below
import Derived.ChangeOld
import Derived.HandedShaped
import Derived.Test.YtfgedolngcdjpaaOpen
import Derived.Test.YtfgedolngcdjpaaPairLineSites
namespace Go.Proofs.Ytfgedolngcdjpaa.fnExactLineSites
open Go.ChangeShapes Go.WideShapes Go.ChangeAt Go.RowKit
open Go.ChangeMaps (open_string shut_string)
set_option linter.unusedVariables false

theorem own : ownKnob Try.prog.godebug = none := by kernel_rfl
theorem laidOut : laidOutB Try.prog = true := by kernel_rfl
/- The walk of the law's body. -/
set_option maxRecDepth 100000 in
set_option maxHeartbeats 1500000 in
theorem walk (W : World) (r0 : Row) (w0 : r0.At W) (r1 : Row) (w1 : r1.At W) (a2 : Int) (w2 : (Lit.int .i64 a2).wf = true)  :
    Calls Try.prog 4 #[r0.val, r1.val, .int .i64 a2] W fun e w' => e = .returned (.bool true) ∧ Below W.heap.size W w' := by
  have hB_0 := Below.refl W.heap.size W
  have hlim0 : (r0.l.length : Int) ≤ 9223372036854775807 := by obtain ⟨q1, q2, _⟩ := w0; rw [iv_length] at q1; unfold maxLen at q2; omega
  have hlim1 : (r1.l.length : Int) ≤ 9223372036854775807 := by obtain ⟨q1, q2, _⟩ := w1; rw [iv_length] at q1; unfold maxLen at q2; omega
  have A0_0 := Lib.hid w0.in
  clear w0
  have A1_0 := Lib.hid w1.in
  clear w1
  by_cases hbig0 : (1048576 : Int) < r0.l.length
  · show Calls _ _ #[.slice r0.a r0.l.length r0.c, .slice r1.a r1.l.length r1.c, .int .i64 a2] _ _
    go_enter Try.func4, Try.ntmps4
    go_wp2
    go_ret
    exact ⟨rfl, Below.refl _ _⟩
  have hs0 : r0.l.length ≤ 1048576 := by omega
  by_cases hbig1 : (1048576 : Int) < r1.l.length
  · show Calls _ _ #[.slice r0.a r0.l.length r0.c, .slice r1.a r1.l.length r1.c, .int .i64 a2] _ _
    go_enter Try.func4, Try.ntmps4
    go_wp2
    go_ret
    exact ⟨rfl, Below.refl _ _⟩
  have hs1 : r1.l.length ≤ 1048576 := by omega
  show Calls _ _ #[.slice r0.a r0.l.length r0.c, .slice r1.a r1.l.length r1.c, .int .i64 a2] _ _
  go_enter Try.func4, Try.ntmps4
  obtain ⟨v, b, hvs, cs, ci⟩ := lineSites_pair r0 r1 a2 w2 hs0 hs1
  have CS := Lib.hid cs
  have CI := Lib.hid ci
  clear cs ci
  go_wp2_with fail
  refine (show Calls _ _ _ _ _ from toInts_row r0 W A0_0.out.at hs0).mono ?_
  rintro e W1 ⟨c0, rfl, hk, -, ho, hi, hb⟩
  have hkc0 := Lib.hid hk
  clear hk
  have A0_1 := Lib.hid (A0_0.out.on hb)
  have A1_1 := Lib.hid (A1_0.out.on hb)
  clear A0_0
  clear A1_0
  have hB_1 := hB_0.trans (hb.mono hB_0.size)
  have hz_1 := hb.size
  clear hB_0 hb
  have Ic0_1 := Lib.hid hi
  have Oc0_1 := Lib.hid ho
  clear hi ho
  go_wp2_with fail
  refine (show Calls _ _ _ _ _ from toInts_row r1 W1 A1_1.out.at hs1).mono ?_
  rintro e W2 ⟨c1, rfl, hk, -, ho, hi, hb⟩
  have hkc1 := Lib.hid hk
  clear hk
  have A0_2 := Lib.hid (A0_1.out.on hb)
  have A1_2 := Lib.hid (A1_1.out.on hb)
  have Ic0_2 := Lib.hid (Ic0_1.out.on hb)
  have Oc0_2 := Lib.hid (Oc0_1.out.on hb)
  clear A0_1
  clear A1_1
  clear Ic0_1
  clear Oc0_1
  have hB_2 := hB_1.trans (hb.mono hB_1.size)
  have hz_2 := hb.size
  clear hB_1 hb
  have Ic1_2 := Lib.hid hi
  have Oc1_2 := Lib.hid ho
  clear hi ho
  go_wp2_with fail
  refine (show Calls _ _ _ _ _ from CS.out c0 c1 W2 Ic0_2.out.at Ic1_2.out.at hkc0.out hkc1.out).mono ?_
  rintro e W3 ⟨gs, rfl, hk, ho, hi, hb⟩
  have hkgs := Lib.hid hk
  clear hk
  have A0_3 := Lib.hid (A0_2.out.on hb)
  have A1_3 := Lib.hid (A1_2.out.on hb)
  have Ic0_3 := Lib.hid (Ic0_2.out.on hb)
  have Oc0_3 := Lib.hid (Oc0_2.out.on hb)
  have Ic1_3 := Lib.hid (Ic1_2.out.on hb)
  have Oc1_3 := Lib.hid (Oc1_2.out.on hb)
  clear A0_2
  clear A1_2
  clear Ic0_2
  clear Oc0_2
  clear Ic1_2
  clear Oc1_2
  have hB_3 := hB_2.trans (hb.mono hB_2.size)
  have hz_3 := hb.size
  clear hB_2 hb
  have Igs_3 := Lib.hid hi
  have Ogs_3 := Lib.hid ho
  clear hi ho
  clear Oc0_3
  clear Ic0_3
  clear Oc1_3
  clear Ic1_3
  clear Ogs_3
  go_wp2_with fail
  refine (show Calls _ _ _ _ _ from toInts_row r0 W3 A0_3.out.at hs0).mono ?_
  rintro e W4 ⟨x0, rfl, hk, -, ho, hi, hb⟩
  have hkx0 := Lib.hid hk
  clear hk
  have A0_4 := Lib.hid (A0_3.out.on hb)
  have A1_4 := Lib.hid (A1_3.out.on hb)
  have Igs_4 := Lib.hid (Igs_3.out.on hb)
  clear A0_3
  clear A1_3
  clear Igs_3
  have hB_4 := hB_3.trans (hb.mono hB_3.size)
  have hz_4 := hb.size
  clear hB_3 hb
  have Ix0_4 := Lib.hid hi
  have Ox0_4 := Lib.hid ho
  clear hi ho
  go_wp2_with fail
  refine (show Calls _ _ _ _ _ from toInts_row r1 W4 A1_4.out.at hs1).mono ?_
  rintro e W5 ⟨x1, rfl, hk, -, ho, hi, hb⟩
  have hkx1 := Lib.hid hk
  clear hk
  have A0_5 := Lib.hid (A0_4.out.on hb)
  have A1_5 := Lib.hid (A1_4.out.on hb)
  have Igs_5 := Lib.hid (Igs_4.out.on hb)
  have Ix0_5 := Lib.hid (Ix0_4.out.on hb)
  have Ox0_5 := Lib.hid (Ox0_4.out.on hb)
  clear A0_4
  clear A1_4
  clear Igs_4
  clear Ix0_4
  clear Ox0_4
  have hB_5 := hB_4.trans (hb.mono hB_4.size)
  have hz_5 := hb.size
  clear hB_4 hb
  have Ix1_5 := Lib.hid hi
  have Ox1_5 := Lib.hid ho
  clear hi ho
  go_wp2_with fail
  refine (show Calls _ _ _ _ _ from CI.out x0 x1 W5 Ix0_5.out.at Ix1_5.out.at hkx0.out hkx1.out).mono ?_
  rintro e W6 ⟨gi, rfl, hk, ho, hi, hb⟩
  have hkgi := Lib.hid hk
  clear hk
  have A0_6 := Lib.hid (A0_5.out.on hb)
  have A1_6 := Lib.hid (A1_5.out.on hb)
  have Igs_6 := Lib.hid (Igs_5.out.on hb)
  have Ix0_6 := Lib.hid (Ix0_5.out.on hb)
  have Ox0_6 := Lib.hid (Ox0_5.out.on hb)
  have Ix1_6 := Lib.hid (Ix1_5.out.on hb)
  have Ox1_6 := Lib.hid (Ox1_5.out.on hb)
  clear A0_5
  clear A1_5
  clear Igs_5
  clear Ix0_5
  clear Ox0_5
  clear Ix1_5
  clear Ox1_5
  have hB_6 := hB_5.trans (hb.mono hB_5.size)
  have hz_6 := hb.size
  clear hB_5 hb
  have Igi_6 := Lib.hid hi
  have Ogi_6 := Lib.hid ho
  clear hi ho
  go_wp2_with fail
  refine (show Calls _ _ _ _ _ from eqRow_law gi gs W6 Igi_6.out.at Igs_6.out.at (hkgi.out.trans hkgs.out.symm) (by rw [hkgi.out]; exact hvs)).mono ?_
  rintro e W7 ⟨rfl, hb⟩
  have A0_7 := Lib.hid (A0_6.out.on hb)
  have A1_7 := Lib.hid (A1_6.out.on hb)
  have Igs_7 := Lib.hid (Igs_6.out.on hb)
  have Ix0_7 := Lib.hid (Ix0_6.out.on hb)
  have Ox0_7 := Lib.hid (Ox0_6.out.on hb)
  have Ix1_7 := Lib.hid (Ix1_6.out.on hb)
  have Ox1_7 := Lib.hid (Ox1_6.out.on hb)
  have Igi_7 := Lib.hid (Igi_6.out.on hb)
  have Ogi_7 := Lib.hid (Ogi_6.out.on hb)
  clear A0_6
  clear A1_6
  clear Igs_6
  clear Ix0_6
  clear Ox0_6
  clear Ix1_6
  clear Ox1_6
  clear Igi_6
  clear Ogi_6
  have hB_7 := hB_6.trans (hb.mono hB_6.size)
  have hz_7 := hb.size
  clear hB_6 hb
  go_wp2_with fail
  refine (show Calls _ _ _ _ _ from toInts_row r0 W7 A0_7.out.at hs0).mono ?_
  rintro e W8 ⟨y0, rfl, hk, -, -, hi, hb⟩
  have hky0 := Lib.hid hk
  clear hk
  have A0_8 := Lib.hid (A0_7.out.on hb)
  have A1_8 := Lib.hid (A1_7.out.on hb)
  have Igs_8 := Lib.hid (Igs_7.out.on hb)
  have Ix0_8 := Lib.hid (Ix0_7.out.on hb)
  have Ox0_8 := Lib.hid (Ox0_7.out.on hb)
  have Ix1_8 := Lib.hid (Ix1_7.out.on hb)
  have Ox1_8 := Lib.hid (Ox1_7.out.on hb)
  have Igi_8 := Lib.hid (Igi_7.out.on hb)
  have Ogi_8 := Lib.hid (Ogi_7.out.on hb)
  clear A0_7
  clear A1_7
  clear Igs_7
  clear Ix0_7
  clear Ox0_7
  clear Ix1_7
  clear Ox1_7
  clear Igi_7
  clear Ogi_7
  have hB_8 := hB_7.trans (hb.mono hB_7.size)
  have hz_8 := hb.size
  clear hB_7 hb
  have hyx0 := eqRow_law x0 y0 W8 Ix0_8.out.at hi.at (hkx0.out.trans hky0.out.symm) (by rw [hkx0.out]; exact hs0)
  clear hi
  go_wp2_with fail
  refine (show Calls _ _ _ _ _ from hyx0).mono ?_
  rintro e W9 ⟨rfl, hb⟩
  clear hyx0
  have A0_9 := Lib.hid (A0_8.out.on hb)
  have A1_9 := Lib.hid (A1_8.out.on hb)
  have Igs_9 := Lib.hid (Igs_8.out.on hb)
  have Ix0_9 := Lib.hid (Ix0_8.out.on hb)
  have Ox0_9 := Lib.hid (Ox0_8.out.on hb)
  have Ix1_9 := Lib.hid (Ix1_8.out.on hb)
  have Ox1_9 := Lib.hid (Ox1_8.out.on hb)
  have Igi_9 := Lib.hid (Igi_8.out.on hb)
  have Ogi_9 := Lib.hid (Ogi_8.out.on hb)
  clear A0_8
  clear A1_8
  clear Igs_8
  clear Ix0_8
  clear Ox0_8
  clear Ix1_8
  clear Ox1_8
  clear Igi_8
  clear Ogi_8
  have hB_9 := hB_8.trans (hb.mono hB_8.size)
  have hz_9 := hb.size
  clear hB_8 hb
  go_wp2_with fail
  refine (show Calls _ _ _ _ _ from toInts_row r1 W9 A1_9.out.at hs1).mono ?_
  rintro e W10 ⟨y1, rfl, hk, -, -, hi, hb⟩
  have hky1 := Lib.hid hk
  clear hk
  have A0_10 := Lib.hid (A0_9.out.on hb)
  have A1_10 := Lib.hid (A1_9.out.on hb)
  have Igs_10 := Lib.hid (Igs_9.out.on hb)
  have Ix0_10 := Lib.hid (Ix0_9.out.on hb)
  have Ox0_10 := Lib.hid (Ox0_9.out.on hb)
  have Ix1_10 := Lib.hid (Ix1_9.out.on hb)
  have Ox1_10 := Lib.hid (Ox1_9.out.on hb)
  have Igi_10 := Lib.hid (Igi_9.out.on hb)
  have Ogi_10 := Lib.hid (Ogi_9.out.on hb)
  clear A0_9
  clear A1_9
  clear Igs_9
  clear Ix0_9
  clear Ox0_9
  clear Ix1_9
  clear Ox1_9
  clear Igi_9
  clear Ogi_9
  have hB_10 := hB_9.trans (hb.mono hB_9.size)
  have hz_10 := hb.size
  clear hB_9 hb
  have hyx1 := eqRow_law x1 y1 W10 Ix1_10.out.at hi.at (hkx1.out.trans hky1.out.symm) (by rw [hkx1.out]; exact hs1)
  clear hi
  go_wp2_with fail
  refine (show Calls _ _ _ _ _ from hyx1).mono ?_
  rintro e W11 ⟨rfl, hb⟩
  clear hyx1
  have A0_11 := Lib.hid (A0_10.out.on hb)
  have A1_11 := Lib.hid (A1_10.out.on hb)
  have Igs_11 := Lib.hid (Igs_10.out.on hb)
  have Ix0_11 := Lib.hid (Ix0_10.out.on hb)
  have Ox0_11 := Lib.hid (Ox0_10.out.on hb)
  have Ix1_11 := Lib.hid (Ix1_10.out.on hb)
  have Ox1_11 := Lib.hid (Ox1_10.out.on hb)
  have Igi_11 := Lib.hid (Igi_10.out.on hb)
  have Ogi_11 := Lib.hid (Ogi_10.out.on hb)
  clear A0_10
  clear A1_10
  clear Igs_10
  clear Ix0_10
  clear Ox0_10
  clear Ix1_10
  clear Ox1_10
  clear Igi_10
  clear Ogi_10
  have hB_11 := hB_10.trans (hb.mono hB_10.size)
  have hz_11 := hb.size
  clear hB_10 hb
  have hs_x0 : x0.l.length ≤ 1048576 := by rw [hkx0.out]; exact hs0
  obtain ⟨q0, hq0⟩ : ∃ q : Nat, q = 1 + x0.l.length := ⟨_, rfl⟩
  have hiq0 : (q0 : Int) ≤ 1048577 := by omega
  have Hq0 := Lib.hid hq0
  clear hq0
  go_wp2_with fail
  refine (show Calls _ _ _ _ _ from markRow_law x0 1 q0 W11 _ _ Ix0_11.out Ox0_11.out hs_x0 (by omega) Hq0.out).mono ?_
  rintro e W12 ⟨rfl, hmk, ht⟩
  clear Ox0_11
  clear Ix0_11
  have A0_12 := Lib.hid (A0_11.out.touch ht (by first | exact .inl (by omega) | exact .inr (by omega)))
  have A1_12 := Lib.hid (A1_11.out.touch ht (by first | exact .inl (by omega) | exact .inr (by omega)))
  have Igs_12 := Lib.hid (Igs_11.out.touch ht (by first | exact .inl (by omega) | exact .inr (by omega)))
  have Ix1_12 := Lib.hid (Ix1_11.out.touch ht (by first | exact .inl (by omega) | exact .inr (by omega)))
  have Ox1_12 := Lib.hid (Ox1_11.out.touch Ix1_11.out ht (by first | exact .inl (by omega) | exact .inr (by omega)))
  have Igi_12 := Lib.hid (Igi_11.out.touch ht (by first | exact .inl (by omega) | exact .inr (by omega)))
  have Ogi_12 := Lib.hid (Ogi_11.out.touch Igi_11.out ht (by first | exact .inl (by omega) | exact .inr (by omega)))
  clear A0_11
  clear A1_11
  clear Igs_11
  clear Ix1_11
  clear Ox1_11
  clear Igi_11
  clear Ogi_11
  have hB_12 := hB_11.trans (ht.below (by omega) (by have := hB_11.size; omega))
  have hz_12 := ht.size
  clear hB_11 ht
  clear hmk
  have hs_x1 : x1.l.length ≤ 1048576 := by rw [hkx1.out]; exact hs1
  obtain ⟨q1, hq1⟩ : ∃ q : Nat, q = q0 + x1.l.length := ⟨_, rfl⟩
  have hiq1 : (q1 : Int) ≤ 2097153 := by omega
  have Hq1 := Lib.hid hq1
  clear hq1
  go_wp2_with fail
  refine (show Calls _ _ _ _ _ from markRow_law x1 q0 q1 W12 _ _ Ix1_12.out Ox1_12.out hs_x1 (by omega) Hq1.out).mono ?_
  rintro e W13 ⟨rfl, hmk, ht⟩
  clear Ox1_12
  clear Ix1_12
  have A0_13 := Lib.hid (A0_12.out.touch ht (by first | exact .inl (by omega) | exact .inr (by omega)))
  have A1_13 := Lib.hid (A1_12.out.touch ht (by first | exact .inl (by omega) | exact .inr (by omega)))
  have Igs_13 := Lib.hid (Igs_12.out.touch ht (by first | exact .inl (by omega) | exact .inr (by omega)))
  have Igi_13 := Lib.hid (Igi_12.out.touch ht (by first | exact .inl (by omega) | exact .inr (by omega)))
  have Ogi_13 := Lib.hid (Ogi_12.out.touch Igi_12.out ht (by first | exact .inl (by omega) | exact .inr (by omega)))
  clear A0_12
  clear A1_12
  clear Igs_12
  clear Igi_12
  clear Ogi_12
  have hB_13 := hB_12.trans (ht.below (by omega) (by have := hB_12.size; omega))
  have hz_13 := ht.size
  clear hB_12 ht
  clear hmk
  have hpos : ¬ (q1 : Int) < 0 := by omega
  go_wp2_with fail
  refine (show Calls _ _ _ _ _ from eqRow_law gi gs W13 Igi_13.out.at Igs_13.out.at (hkgi.out.trans hkgs.out.symm) (by rw [hkgi.out]; exact hvs)).mono ?_
  rintro e W14 ⟨rfl, hb⟩
  have A0_14 := Lib.hid (A0_13.out.on hb)
  have A1_14 := Lib.hid (A1_13.out.on hb)
  have Igs_14 := Lib.hid (Igs_13.out.on hb)
  have Igi_14 := Lib.hid (Igi_13.out.on hb)
  have Ogi_14 := Lib.hid (Ogi_13.out.on hb)
  clear A0_13
  clear A1_13
  clear Igs_13
  clear Igi_13
  clear Ogi_13
  have hB_14 := hB_13.trans (hb.mono hB_13.size)
  have hz_14 := hb.size
  clear hB_13 hb
  have hs_gi : gi.l.length ≤ 1048576 := by rw [hkgi.out]; exact hvs
  obtain ⟨p, hp⟩ : ∃ q : Nat, q = 1 + gi.l.length := ⟨_, rfl⟩
  have hip : (p : Int) ≤ 4194304 := by omega
  have hip0 : ¬ (p : Int) < 0 := by omega
  have Hp := Lib.hid hp
  clear hp
  go_wp2_with fail
  refine (show Calls _ _ _ _ _ from markRow_law gi 1 p W14 _ _ Igi_14.out Ogi_14.out hs_gi (by omega) Hp.out).mono ?_
  rintro e W15 ⟨rfl, hmk, ht⟩
  clear Ogi_14
  clear Igi_14
  have A0_15 := Lib.hid (A0_14.out.touch ht (by first | exact .inl (by omega) | exact .inr (by omega)))
  have A1_15 := Lib.hid (A1_14.out.touch ht (by first | exact .inl (by omega) | exact .inr (by omega)))
  have Igs_15 := Lib.hid (Igs_14.out.touch ht (by first | exact .inl (by omega) | exact .inr (by omega)))
  clear A0_14
  clear A1_14
  clear Igs_14
  have hB_15 := hB_14.trans (ht.below (by omega) (by have := hB_14.size; omega))
  have hz_15 := ht.size
  clear hB_14 ht
  have Mgi_15 := Lib.hid hmk
  clear hmk
  go_wp2_with fail
  refine (show Calls _ _ _ _ _ from heldRow_law gi 1 p W15 _ _ Mgi_15.out hs_gi (by omega) Hp.out).mono ?_
  rintro e W16 ⟨rfl, hb⟩
  have A0_16 := Lib.hid (A0_15.out.on hb)
  have A1_16 := Lib.hid (A1_15.out.on hb)
  have Igs_16 := Lib.hid (Igs_15.out.on hb)
  have Mgi_16 := Lib.hid (Mgi_15.out.on hb)
  clear A0_15
  clear A1_15
  clear Igs_15
  clear Mgi_15
  have hB_16 := hB_15.trans (hb.mono hB_15.size)
  have hz_16 := hb.size
  clear hB_15 hb
  go_wp2_with fail
  refine (show Calls _ _ _ _ _ from toInts_row r0 W16 A0_16.out.at hs0).mono ?_
  rintro e W17 ⟨z0, rfl, hk, -, ho, hi, hb⟩
  have hkz0 := Lib.hid hk
  clear hk
  have A0_17 := Lib.hid (A0_16.out.on hb)
  have A1_17 := Lib.hid (A1_16.out.on hb)
  have Igs_17 := Lib.hid (Igs_16.out.on hb)
  have Mgi_17 := Lib.hid (Mgi_16.out.on hb)
  clear A0_16
  clear A1_16
  clear Igs_16
  clear Mgi_16
  have hB_17 := hB_16.trans (hb.mono hB_16.size)
  have hz_17 := hb.size
  clear hB_16 hb
  have Iz0_17 := Lib.hid hi
  have Oz0_17 := Lib.hid ho
  clear hi ho
  go_wp2_with fail
  refine (show Calls _ _ _ _ _ from toInts_row r1 W17 A1_17.out.at hs1).mono ?_
  rintro e W18 ⟨z1, rfl, hk, -, ho, hi, hb⟩
  have hkz1 := Lib.hid hk
  clear hk
  have A0_18 := Lib.hid (A0_17.out.on hb)
  have A1_18 := Lib.hid (A1_17.out.on hb)
  have Igs_18 := Lib.hid (Igs_17.out.on hb)
  have Mgi_18 := Lib.hid (Mgi_17.out.on hb)
  have Iz0_18 := Lib.hid (Iz0_17.out.on hb)
  have Oz0_18 := Lib.hid (Oz0_17.out.on hb)
  clear A0_17
  clear A1_17
  clear Igs_17
  clear Mgi_17
  clear Iz0_17
  clear Oz0_17
  have hB_18 := hB_17.trans (hb.mono hB_17.size)
  have hz_18 := hb.size
  clear hB_17 hb
  have Iz1_18 := Lib.hid hi
  have Oz1_18 := Lib.hid ho
  clear hi ho
  go_wp2_with fail
  refine (show Calls _ _ _ _ _ from CI.out z0 z1 W18 Iz0_18.out.at Iz1_18.out.at hkz0.out hkz1.out).mono ?_
  rintro e W19 ⟨gz, rfl, hk, ho, hi, hb⟩
  have hkgz := Lib.hid hk
  clear hk
  have A0_19 := Lib.hid (A0_18.out.on hb)
  have A1_19 := Lib.hid (A1_18.out.on hb)
  have Igs_19 := Lib.hid (Igs_18.out.on hb)
  have Mgi_19 := Lib.hid (Mgi_18.out.on hb)
  have Iz0_19 := Lib.hid (Iz0_18.out.on hb)
  have Oz0_19 := Lib.hid (Oz0_18.out.on hb)
  have Iz1_19 := Lib.hid (Iz1_18.out.on hb)
  have Oz1_19 := Lib.hid (Oz1_18.out.on hb)
  clear A0_18
  clear A1_18
  clear Igs_18
  clear Mgi_18
  clear Iz0_18
  clear Oz0_18
  clear Iz1_18
  clear Oz1_18
  have hB_19 := hB_18.trans (hb.mono hB_18.size)
  have hz_19 := hb.size
  clear hB_18 hb
  have Igz_19 := Lib.hid hi
  have Ogz_19 := Lib.hid ho
  clear hi ho
  clear Oz0_19
  clear Iz0_19
  clear Oz1_19
  clear Iz1_19
  go_wp2_with fail
  refine (show Calls _ _ _ _ _ from eqRow_law gz gs W19 Igz_19.out.at Igs_19.out.at (hkgz.out.trans hkgs.out.symm) (by rw [hkgz.out]; exact hvs)).mono ?_
  rintro e W20 ⟨rfl, hb⟩
  have A0_20 := Lib.hid (A0_19.out.on hb)
  have A1_20 := Lib.hid (A1_19.out.on hb)
  have Igs_20 := Lib.hid (Igs_19.out.on hb)
  have Mgi_20 := Lib.hid (Mgi_19.out.on hb)
  have Igz_20 := Lib.hid (Igz_19.out.on hb)
  have Ogz_20 := Lib.hid (Ogz_19.out.on hb)
  clear A0_19
  clear A1_19
  clear Igs_19
  clear Mgi_19
  clear Igz_19
  clear Ogz_19
  have hB_20 := hB_19.trans (hb.mono hB_19.size)
  have hz_20 := hb.size
  clear hB_19 hb
  go_wp2_with fail
  refine (show Calls _ _ _ _ _ from heldRow_law gi 1 p W20 _ _ Mgi_20.out hs_gi (by omega) Hp.out).mono ?_
  rintro e W21 ⟨rfl, hb⟩
  have A0_21 := Lib.hid (A0_20.out.on hb)
  have A1_21 := Lib.hid (A1_20.out.on hb)
  have Igs_21 := Lib.hid (Igs_20.out.on hb)
  have Mgi_21 := Lib.hid (Mgi_20.out.on hb)
  have Igz_21 := Lib.hid (Igz_20.out.on hb)
  have Ogz_21 := Lib.hid (Ogz_20.out.on hb)
  clear A0_20
  clear A1_20
  clear Igs_20
  clear Mgi_20
  clear Igz_20
  clear Ogz_20
  have hB_21 := hB_20.trans (hb.mono hB_20.size)
  have hz_21 := hb.size
  clear hB_20 hb
  go_wp2_with fail
  go_ret
  exact ⟨rfl, hB_21⟩

/- The row's step. -/
set_option maxRecDepth 100000 in
set_option maxHeartbeats 4000000 in
theorem lifted (os : Os) (started : os.Started) (H : Type) (enc : TypeId × Value → H) :
    ReturnsInHanded {} Try.checked os 4 .any (Rows.fnExactLineSitesSpec.pre6 enc Try.prog Try.f4 Rows.fnExactLineSitesRow.domain false) (Rows.fnExactLineSitesSpec.post enc Try.prog Try.f4 false true false false) := by
  refine returnsInHanded_of_change_shaped (C := Try.checked) own started (by kernel_rfl) Try.func4
    (ChangeSpec.witness6 (enc := enc) (C := Try.checked) false ⟨#[], #[.slice none 0 0, .slice none 0 0, .int .i64 0], []⟩ 8 (by kernel_rfl) (by kernel_rfl) (by kernel_rfl) (by kernel_rfl)) ?_
  intro W base args ds gs before hval0 hW hcnd hsz0 hShape _
  have hval : ∀ (j : Nat) t v, Try.f4.params[j]? = some t → args[j]? = some v → Value.okWide Try.prog W .any base t v := hval0
  have hW' := hW
  obtain ⟨p, q, hA0, hV, rfl, hfz, hnd⟩ := hW
  have hA : DataW.TrodAll enc Try.prog W 0 (fun _ => true) true Try.f4.params.toList args.toList ds p := hA0
  rw [Try.params4] at hA hval
  obtain ⟨v0, vs0, d0, ds0, p0, q0, hargs, rfl, rfl, h0, more0⟩ := trodAll_cons hA
  obtain ⟨v1, vs1, d1, ds1, p1, q1, rfl, rfl, rfl, h1, more1⟩ := trodAll_cons more0
  obtain ⟨v2, vs2, d2, ds2, p2, q2, rfl, rfl, rfl, h2, more2⟩ := trodAll_cons more1
  obtain ⟨rfl, rfl, rfl⟩ := trodAll_nil more2
  obtain rfl : args = #[v0, v1, v2] := by cases args; simp_all
  obtain ⟨rfl, rfl⟩ := trodVars_none hV
  have k0 := h0
  have lt0 : ∀ x ∈ p0, x.block < W.heap.size := by obtain ⟨m, hm⟩ := k0; exact DataW.trod_lt m _ _ _ hm
  obtain ⟨r0, rfl, w0⟩ := open_row (P := Try.prog) (W := W) Try.underlying22 Try.underlying3 (by kernel_rfl) (hval 0 22 v0 rfl rfl) h0
  have k1 := h1
  have lt1 : ∀ x ∈ p1, x.block < W.heap.size := by obtain ⟨m, hm⟩ := k1; exact DataW.trod_lt m _ _ _ hm
  obtain ⟨r1, rfl, w1⟩ := open_row (P := Try.prog) (W := W) Try.underlying22 Try.underlying3 (by kernel_rfl) (hval 1 22 v1 rfl rfl) h1
  obtain ⟨a2, rfl, rfl, rfl, w2⟩ := open_int Try.underlying3 (hval 2 3 v2 rfl rfl) h2
  clear hA0 hval0
  refine (walk W r0 w0 r1 w1 a2 w2 ).mono fun e W' ⟨he, bel⟩ => ?_
  subst he
  exact ⟨_, rfl, _, _, _, [], _, [], hW', trodAll_mk1 (shut_bool Try.underlying4 _), (trodAll_cons_mk (Below.trod laidOut (by kernel_rfl) (of_decide_eq_true (by kernel_rfl)) k0 bel lt0) (trodAll_cons_mk (Below.trod laidOut (by kernel_rfl) (of_decide_eq_true (by kernel_rfl)) k1 bel lt1) (trodAll_cons_mk (shut_int Try.underlying3 w2) trodAll_mk0))), rfl, bel.frame _, fun h => by cases h⟩

theorem over : Rows.fnExactLineSitesRow.holds Try.pinned (OpenSpec.ofChange Rows.fnExactLineSitesSpec) :=
  OpenClaim.holds_of_wide 4 Try.f4 rfl rfl rfl rfl rfl rfl rfl ⟨rfl, rfl, rfl, rfl, rfl⟩ rfl rfl rfl rfl rfl (by kernel_rfl) Try.func4 (by kernel_rfl)
    (of_decide_eq_true (by kernel_rfl)) (by unfold Func.isWrapper; first | (rw [if_pos (by decide +kernel)]; kernel_rfl) | (rw [if_neg (by decide +kernel)]; exact ⟨rfl, rfl⟩))
    (fun os started H enc _ => lifted os started H enc)

/-- The statement. -/
theorem proved : Rows.FnExactLineSitesSaid :=
  over
#print axioms proved
end Go.Proofs.Ytfgedolngcdjpaa.fnExactLineSites
