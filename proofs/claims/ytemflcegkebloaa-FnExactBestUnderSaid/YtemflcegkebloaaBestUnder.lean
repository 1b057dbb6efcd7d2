/- Proved here: called with any arguments, the law FnExactBestUnder returns true and the arguments read afterwards as they read before: impl.BestUnder answers as its model does, the first set with the least value of one objective, of those with at most a limit for another.
   Conditions: none but the statement's own (the arguments can be read as data). -/
import Derived.Test.YtemflcegkebloaaRows
import Derived.WalkKit
import Derived.ProofKit
import Derived.OpenShut
import Derived.ShutString
import Derived.Below
import Derived.ChangeOld
import Derived.HandedShaped
import Derived.Test.YtemflcegkebloaaOpen
import Derived.Test.YtemflcegkebloaaPairBestUnder
namespace Go.Proofs.Ytemflcegkebloaa.fnExactBestUnder
open Go.ChangeShapes Go.WideShapes Go.ChangeAt Go.RowKit
open Go.ChangeMaps (open_string shut_string)
set_option linter.unusedVariables false

theorem own : ownKnob Try.prog.godebug = none := by kernel_rfl
theorem laidOut : laidOutB Try.prog = true := by kernel_rfl
/- The walk of the law's body. -/
set_option maxRecDepth 100000 in
set_option maxHeartbeats 1500000 in
theorem walk (W : World) (F0 : Fld) (w0 : F0.At W) (a1 : Int) (w1 : (Lit.int .i64 a1).wf = true) (a2 : Int) (w2 : (Lit.int .i64 a2).wf = true) (a3 : Int) (w3 : (Lit.int .i64 a3).wf = true)  :
    Calls Try.prog 3 #[F0.val, .int .i64 a1, .int .i64 a2, .int .i64 a3] W fun e w' => e = .returned (.bool true) ∧ Below W.heap.size W w' := by
  have hB_0 := Below.refl W.heap.size W
  have A0_0 := Lib.hid w0.in
  clear w0
  show Calls _ _ #[.agg #[F0.o.val, F0.t.val], .int .i64 a1, .int .i64 a2, .int .i64 a3] _ _
  go_enter Try.func3, Try.ntmps3
  go_wp2_with fail
  obtain ⟨W1, hW⟩ : ∃ u, u = (W.alloc (Obj.cells #[F0.o.val, F0.t.val] 25)) := ⟨_, rfl⟩
  rw [show (W.alloc (Obj.cells #[F0.o.val, F0.t.val] 25)) = W1 from hW.symm]
  have hb : Below W.heap.size W W1 := by rw [hW]; exact below_alloc _ _
  have hbx : Box2 W1 W.heap.size (F0.o.val) (F0.t.val) 25 := by rw [hW]; exact Box2.made _ _ _ _ 
  have hsx : W1.heap.size = W.heap.size + 1 := by rw [hW]; exact size_alloc _ _
  clear hW
  have A0_1 := Lib.hid (A0_0.out.on hb)
  clear A0_0
  have hB_1 := hB_0.trans (hb.mono hB_0.size)
  have hz_1 := hb.size
  clear hB_0 hb
  have B0_1 := Lib.hid hbx
  clear hbx
  have hzx_1 := Nat.le_of_eq hsx
  have hzy_1 := Nat.le_of_eq hsx.symm
  clear hsx
  refine (show Calls _ _ _ _ _ from szFld_any F0 1048576 W1 A0_1.out.at (by omega) (by omega)).mono ?_
  rintro e W2 ⟨⟨left0, rfl, hl0, hm0⟩, hb⟩
  have A0_2 := Lib.hid (A0_1.out.on hb)
  have B0_2 := Lib.hid (B0_1.out.on hb)
  clear A0_1
  clear B0_1
  have hB_2 := hB_1.trans (hb.mono hB_1.size)
  have hz_2 := hb.size
  clear hB_1 hb
  by_cases hng0 : left0 < 0
  · go_wp2
    go_ret
    exact ⟨rfl, hB_2⟩
  have hs0 : F0.Small := by unfold Fld.Small; have := hl0 (by omega); omega
  have hle0 : left0 ≤ 1048576 := hm0
  obtain ⟨v, b, hvs, cs, ci⟩ := bestUnder_pair F0 a1 a2 a3 w1 w2 w3 hs0
  have CS := Lib.hid cs
  have CI := Lib.hid ci
  clear cs ci
  have B0_c0 := B0_2.out.c0
  have B0_c1 := B0_2.out.c1
  go_wp2_with fail
  clear B0_c0 B0_c1
  refine (show Calls _ _ _ _ _ from toFld_law F0 W2 A0_2.out.at hs0).mono ?_
  rintro e W3 ⟨c0, rfl, hkc0, ho, hi, hb⟩
  have A0_3 := Lib.hid (A0_2.out.on hb)
  have B0_3 := Lib.hid (B0_2.out.on hb)
  clear A0_2
  clear B0_2
  have hB_3 := hB_2.trans (hb.mono hB_2.size)
  have hz_3 := hb.size
  clear hB_2 hb
  have Ic0_3 := Lib.hid hi
  have Oc0_3 := Lib.hid ho
  clear hi ho
  have B0_c0 := B0_3.out.c0
  have B0_c1 := B0_3.out.c1
  go_wp2_with fail
  clear B0_c0 B0_c1
  refine (show Calls _ _ _ _ _ from CS.out c0 W3 Ic0_3.out.at hkc0).mono ?_
  rintro e W4 ⟨gs, rfl, hk, ho, hi, hb⟩
  have hkgs := Lib.hid hk
  clear hk
  have A0_4 := Lib.hid (A0_3.out.on hb)
  have B0_4 := Lib.hid (B0_3.out.on hb)
  have Ic0_4 := Lib.hid (Ic0_3.out.on hb)
  have Oc0_4 := Lib.hid (Oc0_3.out.on hb)
  clear A0_3
  clear B0_3
  clear Ic0_3
  clear Oc0_3
  have hB_4 := hB_3.trans (hb.mono hB_3.size)
  have hz_4 := hb.size
  clear hB_3 hb
  have Igs_4 := Lib.hid hi
  have Ogs_4 := Lib.hid ho
  clear hi ho
  clear Oc0_4
  clear Ic0_4
  clear Ogs_4
  have B0_c0 := B0_4.out.c0
  have B0_c1 := B0_4.out.c1
  go_wp2_with fail
  clear B0_c0 B0_c1
  refine (show Calls _ _ _ _ _ from toFld_law F0 W4 A0_4.out.at hs0).mono ?_
  rintro e W5 ⟨x0, rfl, hkx0, ho, hi, hb⟩
  have A0_5 := Lib.hid (A0_4.out.on hb)
  have B0_5 := Lib.hid (B0_4.out.on hb)
  have Igs_5 := Lib.hid (Igs_4.out.on hb)
  clear A0_4
  clear B0_4
  clear Igs_4
  have hB_5 := hB_4.trans (hb.mono hB_4.size)
  have hz_5 := hb.size
  clear hB_4 hb
  have Ix0_5 := Lib.hid hi
  have Ox0_5 := Lib.hid ho
  clear hi ho
  have B0_c0 := B0_5.out.c0
  have B0_c1 := B0_5.out.c1
  go_wp2_with fail
  clear B0_c0 B0_c1
  obtain ⟨W6, hW⟩ : ∃ u, u = boxed W5 (.slice x0.o.a x0.o.l.length x0.o.c) (.slice x0.t.a x0.t.R.length x0.t.c) := ⟨_, rfl⟩
  rw [show W5.alloc (Obj.cells #[.slice x0.o.a x0.o.l.length x0.o.c, .slice x0.t.a x0.t.R.length x0.t.c] 29) = W6 from hW.symm]
  have hb : Below W5.heap.size W5 W6 := by rw [hW]; exact boxed_below _ _ _ 
  have hbx : Box2 W6 W5.heap.size (.slice x0.o.a x0.o.l.length x0.o.c) (.slice x0.t.a x0.t.R.length x0.t.c) 29 := by rw [hW]; exact boxed_box _ _ _ 
  have hsx : W6.heap.size = W5.heap.size + 1 := by rw [hW]; exact boxed_size _ _ _ 
  clear hW
  have A0_6 := Lib.hid (A0_5.out.on hb)
  have B0_6 := Lib.hid (B0_5.out.on hb)
  have Igs_6 := Lib.hid (Igs_5.out.on hb)
  have Ix0_6 := Lib.hid (Ix0_5.out.on hb)
  have Ox0_6 := Lib.hid (Ox0_5.out.on hb)
  clear A0_5
  clear B0_5
  clear Igs_5
  clear Ix0_5
  clear Ox0_5
  have hB_6 := hB_5.trans (hb.mono hB_5.size)
  have hz_6 := hb.size
  clear hB_5 hb
  have Bx0_6 := Lib.hid hbx
  clear hbx
  have hzx_6 := Nat.le_of_eq hsx
  have hzy_6 := Nat.le_of_eq hsx.symm
  clear hsx
  refine (show Calls _ _ _ _ _ from CI.out x0 W6 Ix0_6.out.at hkx0).mono ?_
  rintro e W7 ⟨gi, rfl, hk, ho, hi, hb⟩
  have hkgi := Lib.hid hk
  clear hk
  have A0_7 := Lib.hid (A0_6.out.on hb)
  have B0_7 := Lib.hid (B0_6.out.on hb)
  have Igs_7 := Lib.hid (Igs_6.out.on hb)
  have Ix0_7 := Lib.hid (Ix0_6.out.on hb)
  have Ox0_7 := Lib.hid (Ox0_6.out.on hb)
  have Bx0_7 := Lib.hid (Bx0_6.out.on hb)
  clear A0_6
  clear B0_6
  clear Igs_6
  clear Ix0_6
  clear Ox0_6
  clear Bx0_6
  have hB_7 := hB_6.trans (hb.mono hB_6.size)
  have hz_7 := hb.size
  clear hB_6 hb
  have Igi_7 := Lib.hid hi
  have Ogi_7 := Lib.hid ho
  clear hi ho
  have B0_c0 := B0_7.out.c0
  have B0_c1 := B0_7.out.c1
  have Bx0_c0 := Bx0_7.out.c0
  have Bx0_c1 := Bx0_7.out.c1
  go_wp2_with fail
  clear B0_c0 B0_c1
  clear Bx0_c0 Bx0_c1
  refine (show Calls _ _ _ _ _ from eqRow_law gi gs W7 Igi_7.out.at Igs_7.out.at (hkgi.out.trans hkgs.out.symm) (by rw [hkgi.out]; exact hvs)).mono ?_
  rintro e W8 ⟨rfl, hb⟩
  have A0_8 := Lib.hid (A0_7.out.on hb)
  have B0_8 := Lib.hid (B0_7.out.on hb)
  have Igs_8 := Lib.hid (Igs_7.out.on hb)
  have Ix0_8 := Lib.hid (Ix0_7.out.on hb)
  have Ox0_8 := Lib.hid (Ox0_7.out.on hb)
  have Bx0_8 := Lib.hid (Bx0_7.out.on hb)
  have Igi_8 := Lib.hid (Igi_7.out.on hb)
  have Ogi_8 := Lib.hid (Ogi_7.out.on hb)
  clear A0_7
  clear B0_7
  clear Igs_7
  clear Ix0_7
  clear Ox0_7
  clear Bx0_7
  clear Igi_7
  clear Ogi_7
  have hB_8 := hB_7.trans (hb.mono hB_7.size)
  have hz_8 := hb.size
  clear hB_7 hb
  have B0_c0 := B0_8.out.c0
  have B0_c1 := B0_8.out.c1
  have Bx0_c0 := Bx0_8.out.c0
  have Bx0_c1 := Bx0_8.out.c1
  go_wp2_with fail
  clear B0_c0 B0_c1
  clear Bx0_c0 Bx0_c1
  have HS : Hid (∀ u, Below W8.heap.size W8 u → ((u.cell? ⟨W.heap.size, 0, none⟩ = some (F0.o.val) ∧ u.cell? ⟨W.heap.size, 1, none⟩ = some (F0.t.val) ∧ u.cell? ⟨W5.heap.size, 0, none⟩ = some (.slice x0.o.a x0.o.l.length x0.o.c) ∧ u.cell? ⟨W5.heap.size, 1, none⟩ = some (.slice x0.t.a x0.t.R.length x0.t.c)) ∧ Below W8.heap.size W8 u)) := Lib.hid fun u hu => box_cells B0_8.out Bx0_8.out u hu
  have s0 := HS.out W8.drew (Below.refl _ _).drew
  have ct := Lib.hid fun u (hu : Below W8.heap.size W8 u) => toFld_law F0 u (A0_8.out.on hu).at hs0
  have ce := Lib.hid fun u (hu : Below W8.heap.size W8 u) (y : Fld) (hy : y.At u) (hky : y.Like F0) => eqFld_same x0 y u (Ix0_8.out.on hu).at hy (hkx0.trans hky.symm) (hs0.like hkx0.symm)
  go_region_held3 (fun u => ((u.cell? ⟨W.heap.size, 0, none⟩ = some (F0.o.val) ∧ u.cell? ⟨W.heap.size, 1, none⟩ = some (F0.t.val) ∧ u.cell? ⟨W5.heap.size, 0, none⟩ = some (.slice x0.o.a x0.o.l.length x0.o.c) ∧ u.cell? ⟨W5.heap.size, 1, none⟩ = some (.slice x0.t.a x0.t.R.length x0.t.c)) ∧ Below W8.heap.size W8 u)) (first | exact s0 | exact keep_reg HS.out (by first | assumption | exact And.right (by assumption)) hb1) (first | (go_at_call 8; refine (show Calls _ _ _ _ _ from ct.out _ (by first | assumption | exact And.right (by assumption))).mono ?_; rintro e u1 ⟨y, rfl, hky, _, hy, hb1⟩) | (go_at_call 11; refine (show Calls _ _ _ _ _ from ce.out _ (by first | assumption | exact And.right (by assumption)) y hy.at hky).mono ?_; rintro e u2 ⟨rfl, hb1⟩))
  refine at_exit (W := W8) (by first | assumption | exact And.right (by assumption)) ?_
  intro W9 hb
  clear HS s0 ct ce
  have A0_9 := Lib.hid (A0_8.out.on hb)
  have B0_9 := Lib.hid (B0_8.out.on hb)
  have Igs_9 := Lib.hid (Igs_8.out.on hb)
  have Ix0_9 := Lib.hid (Ix0_8.out.on hb)
  have Ox0_9 := Lib.hid (Ox0_8.out.on hb)
  have Bx0_9 := Lib.hid (Bx0_8.out.on hb)
  have Igi_9 := Lib.hid (Igi_8.out.on hb)
  have Ogi_9 := Lib.hid (Ogi_8.out.on hb)
  clear A0_8
  clear B0_8
  clear Igs_8
  clear Ix0_8
  clear Ox0_8
  clear Bx0_8
  clear Igi_8
  clear Ogi_8
  have hB_9 := hB_8.trans (hb.mono hB_8.size)
  have hz_9 := hb.size
  clear hB_8 hb
  have hs_x0 : x0.Small := hs0.like hkx0.symm
  have hz_x0 : x0.o.l.length + tot x0.t.con ≤ 1048576 := by have := hs_x0; unfold Fld.Small at this; omega
  obtain ⟨q0, hq0⟩ : ∃ q : Nat, q = 1 + x0.o.l.length + tot x0.t.con := ⟨_, rfl⟩
  have hiq0 : (q0 : Int) ≤ 1048577 := by omega
  have Hq0 := Lib.hid hq0
  clear hq0
  have B0_c0 := B0_9.out.c0
  have B0_c1 := B0_9.out.c1
  have Bx0_c0 := Bx0_9.out.c0
  have Bx0_c1 := Bx0_9.out.c1
  go_wp2_with fail
  clear B0_c0 B0_c1
  clear Bx0_c0 Bx0_c1
  refine (show Calls _ _ _ _ _ from markFld_law x0 1 q0 W9 _ _ Ix0_9.out Ox0_9.out hs_x0 (by omega) Hq0.out).mono ?_
  rintro e W10 ⟨rfl, hmk, ht⟩
  clear Ox0_9
  clear Ix0_9
  have A0_10 := Lib.hid (A0_9.out.touch ht (by first | exact .inl (by omega) | exact .inr (by omega)))
  have B0_10 := Lib.hid (B0_9.out.touch ht (by first | exact .inl (by omega) | exact .inr (by omega)))
  have Igs_10 := Lib.hid (Igs_9.out.touch ht (by first | exact .inl (by omega) | exact .inr (by omega)))
  have Bx0_10 := Lib.hid (Bx0_9.out.touch ht (by first | exact .inl (by omega) | exact .inr (by omega)))
  have Igi_10 := Lib.hid (Igi_9.out.touch ht (by first | exact .inl (by omega) | exact .inr (by omega)))
  have Ogi_10 := Lib.hid (Ogi_9.out.touch Igi_9.out ht (by first | exact .inl (by omega) | exact .inr (by omega)))
  clear A0_9
  clear B0_9
  clear Igs_9
  clear Bx0_9
  clear Igi_9
  clear Ogi_9
  have hB_10 := hB_9.trans (ht.below (by omega) (by have := hB_9.size; omega))
  have hz_10 := ht.size
  clear hB_9 ht
  clear hmk
  have hpos : ¬ (q0 : Int) < 0 := by omega
  have B0_c0 := B0_10.out.c0
  have B0_c1 := B0_10.out.c1
  have Bx0_c0 := Bx0_10.out.c0
  have Bx0_c1 := Bx0_10.out.c1
  go_wp2_with fail
  clear B0_c0 B0_c1
  clear Bx0_c0 Bx0_c1
  refine (show Calls _ _ _ _ _ from eqRow_law gi gs W10 Igi_10.out.at Igs_10.out.at (hkgi.out.trans hkgs.out.symm) (by rw [hkgi.out]; exact hvs)).mono ?_
  rintro e W11 ⟨rfl, hb⟩
  have A0_11 := Lib.hid (A0_10.out.on hb)
  have B0_11 := Lib.hid (B0_10.out.on hb)
  have Igs_11 := Lib.hid (Igs_10.out.on hb)
  have Bx0_11 := Lib.hid (Bx0_10.out.on hb)
  have Igi_11 := Lib.hid (Igi_10.out.on hb)
  have Ogi_11 := Lib.hid (Ogi_10.out.on hb)
  clear A0_10
  clear B0_10
  clear Igs_10
  clear Bx0_10
  clear Igi_10
  clear Ogi_10
  have hB_11 := hB_10.trans (hb.mono hB_10.size)
  have hz_11 := hb.size
  clear hB_10 hb
  have hs_gi : gi.l.length ≤ 1048576 := by rw [hkgi.out]; exact hvs
  obtain ⟨p, hp⟩ : ∃ q : Nat, q = 1 + gi.l.length := ⟨_, rfl⟩
  have hip : (p : Int) ≤ 4194304 := by omega
  have hip0 : ¬ (p : Int) < 0 := by omega
  have Hp := Lib.hid hp
  clear hp
  have B0_c0 := B0_11.out.c0
  have B0_c1 := B0_11.out.c1
  have Bx0_c0 := Bx0_11.out.c0
  have Bx0_c1 := Bx0_11.out.c1
  go_wp2_with fail
  clear B0_c0 B0_c1
  clear Bx0_c0 Bx0_c1
  refine (show Calls _ _ _ _ _ from markRow_law gi 1 p W11 _ _ Igi_11.out Ogi_11.out hs_gi (by omega) Hp.out).mono ?_
  rintro e W12 ⟨rfl, hmk, ht⟩
  clear Ogi_11
  clear Igi_11
  have A0_12 := Lib.hid (A0_11.out.touch ht (by first | exact .inl (by omega) | exact .inr (by omega)))
  have B0_12 := Lib.hid (B0_11.out.touch ht (by first | exact .inl (by omega) | exact .inr (by omega)))
  have Igs_12 := Lib.hid (Igs_11.out.touch ht (by first | exact .inl (by omega) | exact .inr (by omega)))
  have Bx0_12 := Lib.hid (Bx0_11.out.touch ht (by first | exact .inl (by omega) | exact .inr (by omega)))
  clear A0_11
  clear B0_11
  clear Igs_11
  clear Bx0_11
  have hB_12 := hB_11.trans (ht.below (by omega) (by have := hB_11.size; omega))
  have hz_12 := ht.size
  clear hB_11 ht
  have Mgi_12 := Lib.hid hmk
  clear hmk
  have B0_c0 := B0_12.out.c0
  have B0_c1 := B0_12.out.c1
  have Bx0_c0 := Bx0_12.out.c0
  have Bx0_c1 := Bx0_12.out.c1
  go_wp2_with fail
  clear B0_c0 B0_c1
  clear Bx0_c0 Bx0_c1
  refine (show Calls _ _ _ _ _ from heldRow_law gi 1 p W12 _ _ Mgi_12.out hs_gi (by omega) Hp.out).mono ?_
  rintro e W13 ⟨rfl, hb⟩
  have A0_13 := Lib.hid (A0_12.out.on hb)
  have B0_13 := Lib.hid (B0_12.out.on hb)
  have Igs_13 := Lib.hid (Igs_12.out.on hb)
  have Bx0_13 := Lib.hid (Bx0_12.out.on hb)
  have Mgi_13 := Lib.hid (Mgi_12.out.on hb)
  clear A0_12
  clear B0_12
  clear Igs_12
  clear Bx0_12
  clear Mgi_12
  have hB_13 := hB_12.trans (hb.mono hB_12.size)
  have hz_13 := hb.size
  clear hB_12 hb
  have B0_c0 := B0_13.out.c0
  have B0_c1 := B0_13.out.c1
  have Bx0_c0 := Bx0_13.out.c0
  have Bx0_c1 := Bx0_13.out.c1
  go_wp2_with fail
  clear B0_c0 B0_c1
  clear Bx0_c0 Bx0_c1
  refine (show Calls _ _ _ _ _ from toFld_law F0 W13 A0_13.out.at hs0).mono ?_
  rintro e W14 ⟨z0, rfl, hkz0, ho, hi, hb⟩
  have A0_14 := Lib.hid (A0_13.out.on hb)
  have B0_14 := Lib.hid (B0_13.out.on hb)
  have Igs_14 := Lib.hid (Igs_13.out.on hb)
  have Bx0_14 := Lib.hid (Bx0_13.out.on hb)
  have Mgi_14 := Lib.hid (Mgi_13.out.on hb)
  clear A0_13
  clear B0_13
  clear Igs_13
  clear Bx0_13
  clear Mgi_13
  have hB_14 := hB_13.trans (hb.mono hB_13.size)
  have hz_14 := hb.size
  clear hB_13 hb
  have Iz0_14 := Lib.hid hi
  have Oz0_14 := Lib.hid ho
  clear hi ho
  have B0_c0 := B0_14.out.c0
  have B0_c1 := B0_14.out.c1
  have Bx0_c0 := Bx0_14.out.c0
  have Bx0_c1 := Bx0_14.out.c1
  go_wp2_with fail
  clear B0_c0 B0_c1
  clear Bx0_c0 Bx0_c1
  refine (show Calls _ _ _ _ _ from CI.out z0 W14 Iz0_14.out.at hkz0).mono ?_
  rintro e W15 ⟨gz, rfl, hk, ho, hi, hb⟩
  have hkgz := Lib.hid hk
  clear hk
  have A0_15 := Lib.hid (A0_14.out.on hb)
  have B0_15 := Lib.hid (B0_14.out.on hb)
  have Igs_15 := Lib.hid (Igs_14.out.on hb)
  have Bx0_15 := Lib.hid (Bx0_14.out.on hb)
  have Mgi_15 := Lib.hid (Mgi_14.out.on hb)
  have Iz0_15 := Lib.hid (Iz0_14.out.on hb)
  have Oz0_15 := Lib.hid (Oz0_14.out.on hb)
  clear A0_14
  clear B0_14
  clear Igs_14
  clear Bx0_14
  clear Mgi_14
  clear Iz0_14
  clear Oz0_14
  have hB_15 := hB_14.trans (hb.mono hB_14.size)
  have hz_15 := hb.size
  clear hB_14 hb
  have Igz_15 := Lib.hid hi
  have Ogz_15 := Lib.hid ho
  clear hi ho
  clear Oz0_15
  clear Iz0_15
  have B0_c0 := B0_15.out.c0
  have B0_c1 := B0_15.out.c1
  have Bx0_c0 := Bx0_15.out.c0
  have Bx0_c1 := Bx0_15.out.c1
  go_wp2_with fail
  clear B0_c0 B0_c1
  clear Bx0_c0 Bx0_c1
  refine (show Calls _ _ _ _ _ from eqRow_law gz gs W15 Igz_15.out.at Igs_15.out.at (hkgz.out.trans hkgs.out.symm) (by rw [hkgz.out]; exact hvs)).mono ?_
  rintro e W16 ⟨rfl, hb⟩
  have A0_16 := Lib.hid (A0_15.out.on hb)
  have B0_16 := Lib.hid (B0_15.out.on hb)
  have Igs_16 := Lib.hid (Igs_15.out.on hb)
  have Bx0_16 := Lib.hid (Bx0_15.out.on hb)
  have Mgi_16 := Lib.hid (Mgi_15.out.on hb)
  have Igz_16 := Lib.hid (Igz_15.out.on hb)
  have Ogz_16 := Lib.hid (Ogz_15.out.on hb)
  clear A0_15
  clear B0_15
  clear Igs_15
  clear Bx0_15
  clear Mgi_15
  clear Igz_15
  clear Ogz_15
  have hB_16 := hB_15.trans (hb.mono hB_15.size)
  have hz_16 := hb.size
  clear hB_15 hb
  have B0_c0 := B0_16.out.c0
  have B0_c1 := B0_16.out.c1
  have Bx0_c0 := Bx0_16.out.c0
  have Bx0_c1 := Bx0_16.out.c1
  go_wp2_with fail
  clear B0_c0 B0_c1
  clear Bx0_c0 Bx0_c1
  refine (show Calls _ _ _ _ _ from heldRow_law gi 1 p W16 _ _ Mgi_16.out hs_gi (by omega) Hp.out).mono ?_
  rintro e W17 ⟨rfl, hb⟩
  have A0_17 := Lib.hid (A0_16.out.on hb)
  have B0_17 := Lib.hid (B0_16.out.on hb)
  have Igs_17 := Lib.hid (Igs_16.out.on hb)
  have Bx0_17 := Lib.hid (Bx0_16.out.on hb)
  have Mgi_17 := Lib.hid (Mgi_16.out.on hb)
  have Igz_17 := Lib.hid (Igz_16.out.on hb)
  have Ogz_17 := Lib.hid (Ogz_16.out.on hb)
  clear A0_16
  clear B0_16
  clear Igs_16
  clear Bx0_16
  clear Mgi_16
  clear Igz_16
  clear Ogz_16
  have hB_17 := hB_16.trans (hb.mono hB_16.size)
  have hz_17 := hb.size
  clear hB_16 hb
  have B0_c0 := B0_17.out.c0
  have B0_c1 := B0_17.out.c1
  have Bx0_c0 := Bx0_17.out.c0
  have Bx0_c1 := Bx0_17.out.c1
  go_wp2_with fail
  clear B0_c0 B0_c1
  clear Bx0_c0 Bx0_c1
  go_ret
  exact ⟨rfl, hB_17⟩

/- The row's step. -/
set_option maxRecDepth 100000 in
set_option maxHeartbeats 4000000 in
theorem lifted (os : Os) (started : os.Started) (H : Type) (enc : TypeId × Value → H) :
    ReturnsInHanded {} Try.checked os 3 .any (Rows.fnExactBestUnderSpec.pre6 enc Try.prog Try.f3 Rows.fnExactBestUnderRow.domain false) (Rows.fnExactBestUnderSpec.post enc Try.prog Try.f3 false true false false) := by
  refine returnsInHanded_of_change_shaped (C := Try.checked) own started (by kernel_rfl) Try.func3
    (ChangeSpec.witness6 (enc := enc) (C := Try.checked) false ⟨#[], #[.agg #[.slice none 0 0, .slice none 0 0], .int .i64 0, .int .i64 0, .int .i64 0], []⟩ 8 (by kernel_rfl) (by kernel_rfl) (by kernel_rfl) (by kernel_rfl)) ?_
  intro W base args ds gs before hval0 hW hcnd hsz0 hShape _
  have hval : ∀ (j : Nat) t v, Try.f3.params[j]? = some t → args[j]? = some v → Value.okWide Try.prog W .any base t v := hval0
  have hW' := hW
  obtain ⟨p, q, hA0, hV, rfl, hfz, hnd⟩ := hW
  have hA : DataW.TrodAll enc Try.prog W 0 (fun _ => true) true Try.f3.params.toList args.toList ds p := hA0
  rw [Try.params3] at hA hval
  obtain ⟨v0, vs0, d0, ds0, p0, q0, hargs, rfl, rfl, h0, more0⟩ := trodAll_cons hA
  obtain ⟨v1, vs1, d1, ds1, p1, q1, rfl, rfl, rfl, h1, more1⟩ := trodAll_cons more0
  obtain ⟨v2, vs2, d2, ds2, p2, q2, rfl, rfl, rfl, h2, more2⟩ := trodAll_cons more1
  obtain ⟨v3, vs3, d3, ds3, p3, q3, rfl, rfl, rfl, h3, more3⟩ := trodAll_cons more2
  obtain ⟨rfl, rfl, rfl⟩ := trodAll_nil more3
  obtain rfl : args = #[v0, v1, v2, v3] := by cases args; simp_all
  obtain ⟨rfl, rfl⟩ := trodVars_none hV
  have k0 := h0
  have lt0 : ∀ x ∈ p0, x.block < W.heap.size := by obtain ⟨m, hm⟩ := k0; exact DataW.trod_lt m _ _ _ hm
  obtain ⟨F0, rfl, w0⟩ := open_fld (P := Try.prog) (W := W) Try.underlying25 (by kernel_rfl) (by kernel_rfl) rfl rfl Try.underlying22 Try.underlying3 (by kernel_rfl) Try.underlying23 Try.underlying22 (by kernel_rfl) (hval 0 25 v0 rfl rfl) h0
  obtain ⟨a1, rfl, rfl, rfl, w1⟩ := open_int Try.underlying3 (hval 1 3 v1 rfl rfl) h1
  obtain ⟨a2, rfl, rfl, rfl, w2⟩ := open_int Try.underlying3 (hval 2 3 v2 rfl rfl) h2
  obtain ⟨a3, rfl, rfl, rfl, w3⟩ := open_int Try.underlying3 (hval 3 3 v3 rfl rfl) h3
  clear hA0 hval0
  refine (walk W F0 w0 a1 w1 a2 w2 a3 w3 ).mono fun e W' ⟨he, bel⟩ => ?_
  subst he
  exact ⟨_, rfl, _, _, _, [], _, [], hW', trodAll_mk1 (shut_bool Try.underlying4 _), (trodAll_cons_mk (Below.trod laidOut (by kernel_rfl) (of_decide_eq_true (by kernel_rfl)) k0 bel lt0) (trodAll_cons_mk (shut_int Try.underlying3 w1) (trodAll_cons_mk (shut_int Try.underlying3 w2) (trodAll_cons_mk (shut_int Try.underlying3 w3) trodAll_mk0)))), rfl, bel.frame _, fun h => by cases h⟩

theorem over : Rows.fnExactBestUnderRow.holds Try.pinned (OpenSpec.ofChange Rows.fnExactBestUnderSpec) :=
  OpenClaim.holds_of_wide 3 Try.f3 rfl rfl rfl rfl rfl rfl rfl ⟨rfl, rfl, rfl, rfl, rfl⟩ rfl rfl rfl rfl rfl (by kernel_rfl) Try.func3 (by kernel_rfl)
    (of_decide_eq_true (by kernel_rfl)) (by unfold Func.isWrapper; first | (rw [if_pos (by decide +kernel)]; kernel_rfl) | (rw [if_neg (by decide +kernel)]; exact ⟨rfl, rfl⟩))
    (fun os started H enc _ => lifted os started H enc)

/-- The statement. -/
theorem proved : Rows.FnExactBestUnderSaid :=
  over
#print axioms proved
end Go.Proofs.Ytemflcegkebloaa.fnExactBestUnder
