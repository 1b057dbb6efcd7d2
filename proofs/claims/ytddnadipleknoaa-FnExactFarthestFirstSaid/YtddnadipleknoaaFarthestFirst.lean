/- Proved here: called with any arguments, the law FnExactFarthestFirst returns true and the arguments read afterwards as they read before: impl.FarthestFirst answers as its model does, the places that are taken, each time the farthest one.
   Conditions: none but the statement's own (the arguments can be read as data). -/
import Derived.Test.YtddnadipleknoaaRows
import Derived.WalkKit
import Derived.ProofKit
import Derived.OpenShut
import Derived.ShutString
import Derived.Below
import Derived.ChangeOld
import Derived.HandedShaped
import Derived.Test.YtddnadipleknoaaOpen
import Derived.Test.YtddnadipleknoaaPairFarthestFirst
namespace Go.Proofs.Ytddnadipleknoaa.fnExactFarthestFirst
open Go.ChangeShapes Go.WideShapes Go.ChangeAt Go.RowKit
open Go.ChangeMaps (open_string shut_string)
set_option linter.unusedVariables false

theorem own : ownKnob Try.prog.godebug = none := by kernel_rfl
theorem laidOut : laidOutB Try.prog = true := by kernel_rfl
/- The walk of the law's body. -/
set_option maxRecDepth 100000 in
set_option maxHeartbeats 1500000 in
theorem walk (W : World) (T0 : Tab) (w0 : T0.At W) (a1 : Int) (w1 : (Lit.int .i64 a1).wf = true)  :
    Calls Try.prog 4 #[T0.val, .int .i64 a1] W fun e w' => e = .returned (.bool true) ∧ Below W.heap.size W w' := by
  have hB_0 := Below.refl W.heap.size W
  have A0_0 := Lib.hid w0.in
  clear w0
  show Calls _ _ #[.slice T0.a T0.R.length T0.c, .int .i64 a1] _ _
  go_enter Try.func4, Try.ntmps4
  go_wp2_with fail
  refine (show Calls _ _ _ _ _ from szTab_law T0 1048576 W A0_0.out.at (by omega) (by omega)).mono ?_
  rintro e W1 ⟨⟨left0, rfl, hl0, hm0⟩, hb⟩
  have A0_1 := Lib.hid (A0_0.out.on hb)
  clear A0_0
  have hB_1 := hB_0.trans (hb.mono hB_0.size)
  have hz_1 := hb.size
  clear hB_0 hb
  by_cases hng0 : left0 < 0
  · go_wp2
    go_ret
    exact ⟨rfl, hB_1⟩
  have hs0 : T0.Small := by unfold Tab.Small; have := hl0 (by omega); omega
  have hle0 : left0 ≤ 1048576 := hm0
  obtain ⟨v, b, hvs, cs, ci⟩ := farthestFirst_pair T0 a1 w1 hs0
  have CS := Lib.hid cs
  have CI := Lib.hid ci
  clear cs ci
  go_wp2_with fail
  refine (show Calls _ _ _ _ _ from toTab_law T0 W1 A0_1.out.at hs0).mono ?_
  rintro e W2 ⟨c0, rfl, hk, ho, hi, hb⟩
  have hkc0 := Lib.hid hk
  clear hk
  have A0_2 := Lib.hid (A0_1.out.on hb)
  clear A0_1
  have hB_2 := hB_1.trans (hb.mono hB_1.size)
  have hz_2 := hb.size
  clear hB_1 hb
  have Ic0_2 := Lib.hid hi
  have Oc0_2 := Lib.hid ho
  clear hi ho
  go_wp2_with fail
  refine (show Calls _ _ _ _ _ from CS.out c0 W2 Ic0_2.out.at hkc0.out).mono ?_
  rintro e W3 ⟨gs, rfl, hk, ho, hi, hb⟩
  have hkgs := Lib.hid hk
  clear hk
  have A0_3 := Lib.hid (A0_2.out.on hb)
  have Ic0_3 := Lib.hid (Ic0_2.out.on hb)
  have Oc0_3 := Lib.hid (Oc0_2.out.on hb)
  clear A0_2
  clear Ic0_2
  clear Oc0_2
  have hB_3 := hB_2.trans (hb.mono hB_2.size)
  have hz_3 := hb.size
  clear hB_2 hb
  have Igs_3 := Lib.hid hi
  have Ogs_3 := Lib.hid ho
  clear hi ho
  clear Oc0_3
  clear Ic0_3
  clear Ogs_3
  go_wp2_with fail
  refine (show Calls _ _ _ _ _ from toTab_law T0 W3 A0_3.out.at hs0).mono ?_
  rintro e W4 ⟨x0, rfl, hk, ho, hi, hb⟩
  have hkx0 := Lib.hid hk
  clear hk
  have A0_4 := Lib.hid (A0_3.out.on hb)
  have Igs_4 := Lib.hid (Igs_3.out.on hb)
  clear A0_3
  clear Igs_3
  have hB_4 := hB_3.trans (hb.mono hB_3.size)
  have hz_4 := hb.size
  clear hB_3 hb
  have Ix0_4 := Lib.hid hi
  have Ox0_4 := Lib.hid ho
  clear hi ho
  go_wp2_with fail
  refine (show Calls _ _ _ _ _ from CI.out x0 W4 Ix0_4.out.at hkx0.out).mono ?_
  rintro e W5 ⟨gi, rfl, hk, ho, hi, hb⟩
  have hkgi := Lib.hid hk
  clear hk
  have A0_5 := Lib.hid (A0_4.out.on hb)
  have Igs_5 := Lib.hid (Igs_4.out.on hb)
  have Ix0_5 := Lib.hid (Ix0_4.out.on hb)
  have Ox0_5 := Lib.hid (Ox0_4.out.on hb)
  clear A0_4
  clear Igs_4
  clear Ix0_4
  clear Ox0_4
  have hB_5 := hB_4.trans (hb.mono hB_4.size)
  have hz_5 := hb.size
  clear hB_4 hb
  have Igi_5 := Lib.hid hi
  have Ogi_5 := Lib.hid ho
  clear hi ho
  go_wp2_with fail
  refine (show Calls _ _ _ _ _ from eqRow_law gi gs W5 Igi_5.out.at Igs_5.out.at (hkgi.out.trans hkgs.out.symm) (by rw [hkgi.out]; exact hvs)).mono ?_
  rintro e W6 ⟨rfl, hb⟩
  have A0_6 := Lib.hid (A0_5.out.on hb)
  have Igs_6 := Lib.hid (Igs_5.out.on hb)
  have Ix0_6 := Lib.hid (Ix0_5.out.on hb)
  have Ox0_6 := Lib.hid (Ox0_5.out.on hb)
  have Igi_6 := Lib.hid (Igi_5.out.on hb)
  have Ogi_6 := Lib.hid (Ogi_5.out.on hb)
  clear A0_5
  clear Igs_5
  clear Ix0_5
  clear Ox0_5
  clear Igi_5
  clear Ogi_5
  have hB_6 := hB_5.trans (hb.mono hB_5.size)
  have hz_6 := hb.size
  clear hB_5 hb
  go_wp2_with fail
  refine (show Calls _ _ _ _ _ from toTab_law T0 W6 A0_6.out.at hs0).mono ?_
  rintro e W7 ⟨y0, rfl, hk, -, hi, hb⟩
  have hky0 := Lib.hid hk
  clear hk
  have A0_7 := Lib.hid (A0_6.out.on hb)
  have Igs_7 := Lib.hid (Igs_6.out.on hb)
  have Ix0_7 := Lib.hid (Ix0_6.out.on hb)
  have Ox0_7 := Lib.hid (Ox0_6.out.on hb)
  have Igi_7 := Lib.hid (Igi_6.out.on hb)
  have Ogi_7 := Lib.hid (Ogi_6.out.on hb)
  clear A0_6
  clear Igs_6
  clear Ix0_6
  clear Ox0_6
  clear Igi_6
  clear Ogi_6
  have hB_7 := hB_6.trans (hb.mono hB_6.size)
  have hz_7 := hb.size
  clear hB_6 hb
  have hyx0 := eqTab_law x0 y0 W7 Ix0_7.out.at hi.at (hkx0.out.trans hky0.out.symm) (Tab.Small.rows hs0 hkx0.out).1 (Tab.Small.rows hs0 hkx0.out).2.2
  clear hi
  go_wp2_with fail
  refine (show Calls _ _ _ _ _ from hyx0).mono ?_
  rintro e W8 ⟨rfl, hb⟩
  clear hyx0
  have A0_8 := Lib.hid (A0_7.out.on hb)
  have Igs_8 := Lib.hid (Igs_7.out.on hb)
  have Ix0_8 := Lib.hid (Ix0_7.out.on hb)
  have Ox0_8 := Lib.hid (Ox0_7.out.on hb)
  have Igi_8 := Lib.hid (Igi_7.out.on hb)
  have Ogi_8 := Lib.hid (Ogi_7.out.on hb)
  clear A0_7
  clear Igs_7
  clear Ix0_7
  clear Ox0_7
  clear Igi_7
  clear Ogi_7
  have hB_8 := hB_7.trans (hb.mono hB_7.size)
  have hz_8 := hb.size
  clear hB_7 hb
  have hs_x0 : x0.R.length ≤ 1048576 ∧ tot x0.con ≤ 1048576 := ⟨(Tab.Small.rows hs0 hkx0.out).1, (Tab.Small.rows hs0 hkx0.out).2.1⟩
  have hz_x0 := hs_x0.2
  obtain ⟨q0, hq0⟩ : ∃ q : Nat, q = 1 + tot x0.con := ⟨_, rfl⟩
  have hiq0 : (q0 : Int) ≤ 1048577 := by omega
  have Hq0 := Lib.hid hq0
  clear hq0
  go_wp2_with fail
  refine (show Calls _ _ _ _ _ from markTab_law x0 1 q0 W8 _ _ Ix0_8.out Ox0_8.out hs_x0.1 hs_x0.2 (by omega) Hq0.out).mono ?_
  rintro e W9 ⟨rfl, hmk, ht⟩
  clear Ox0_8
  clear Ix0_8
  have A0_9 := Lib.hid (A0_8.out.touch ht (by first | exact .inl (by omega) | exact .inr (by omega)))
  have Igs_9 := Lib.hid (Igs_8.out.touch ht (by first | exact .inl (by omega) | exact .inr (by omega)))
  have Igi_9 := Lib.hid (Igi_8.out.touch ht (by first | exact .inl (by omega) | exact .inr (by omega)))
  have Ogi_9 := Lib.hid (Ogi_8.out.touch Igi_8.out ht (by first | exact .inl (by omega) | exact .inr (by omega)))
  clear A0_8
  clear Igs_8
  clear Igi_8
  clear Ogi_8
  have hB_9 := hB_8.trans (ht.below (by omega) (by have := hB_8.size; omega))
  have hz_9 := ht.size
  clear hB_8 ht
  clear hmk
  have hpos : ¬ (q0 : Int) < 0 := by omega
  go_wp2_with fail
  refine (show Calls _ _ _ _ _ from eqRow_law gi gs W9 Igi_9.out.at Igs_9.out.at (hkgi.out.trans hkgs.out.symm) (by rw [hkgi.out]; exact hvs)).mono ?_
  rintro e W10 ⟨rfl, hb⟩
  have A0_10 := Lib.hid (A0_9.out.on hb)
  have Igs_10 := Lib.hid (Igs_9.out.on hb)
  have Igi_10 := Lib.hid (Igi_9.out.on hb)
  have Ogi_10 := Lib.hid (Ogi_9.out.on hb)
  clear A0_9
  clear Igs_9
  clear Igi_9
  clear Ogi_9
  have hB_10 := hB_9.trans (hb.mono hB_9.size)
  have hz_10 := hb.size
  clear hB_9 hb
  have hs_gi : gi.l.length ≤ 1048576 := by rw [hkgi.out]; exact hvs
  obtain ⟨p, hp⟩ : ∃ q : Nat, q = 1 + gi.l.length := ⟨_, rfl⟩
  have hip : (p : Int) ≤ 4194304 := by omega
  have hip0 : ¬ (p : Int) < 0 := by omega
  have Hp := Lib.hid hp
  clear hp
  go_wp2_with fail
  refine (show Calls _ _ _ _ _ from markRow_law gi 1 p W10 _ _ Igi_10.out Ogi_10.out hs_gi (by omega) Hp.out).mono ?_
  rintro e W11 ⟨rfl, hmk, ht⟩
  clear Ogi_10
  clear Igi_10
  have A0_11 := Lib.hid (A0_10.out.touch ht (by first | exact .inl (by omega) | exact .inr (by omega)))
  have Igs_11 := Lib.hid (Igs_10.out.touch ht (by first | exact .inl (by omega) | exact .inr (by omega)))
  clear A0_10
  clear Igs_10
  have hB_11 := hB_10.trans (ht.below (by omega) (by have := hB_10.size; omega))
  have hz_11 := ht.size
  clear hB_10 ht
  have Mgi_11 := Lib.hid hmk
  clear hmk
  go_wp2_with fail
  refine (show Calls _ _ _ _ _ from heldRow_law gi 1 p W11 _ _ Mgi_11.out hs_gi (by omega) Hp.out).mono ?_
  rintro e W12 ⟨rfl, hb⟩
  have A0_12 := Lib.hid (A0_11.out.on hb)
  have Igs_12 := Lib.hid (Igs_11.out.on hb)
  have Mgi_12 := Lib.hid (Mgi_11.out.on hb)
  clear A0_11
  clear Igs_11
  clear Mgi_11
  have hB_12 := hB_11.trans (hb.mono hB_11.size)
  have hz_12 := hb.size
  clear hB_11 hb
  go_wp2_with fail
  refine (show Calls _ _ _ _ _ from toTab_law T0 W12 A0_12.out.at hs0).mono ?_
  rintro e W13 ⟨z0, rfl, hk, ho, hi, hb⟩
  have hkz0 := Lib.hid hk
  clear hk
  have A0_13 := Lib.hid (A0_12.out.on hb)
  have Igs_13 := Lib.hid (Igs_12.out.on hb)
  have Mgi_13 := Lib.hid (Mgi_12.out.on hb)
  clear A0_12
  clear Igs_12
  clear Mgi_12
  have hB_13 := hB_12.trans (hb.mono hB_12.size)
  have hz_13 := hb.size
  clear hB_12 hb
  have Iz0_13 := Lib.hid hi
  have Oz0_13 := Lib.hid ho
  clear hi ho
  go_wp2_with fail
  refine (show Calls _ _ _ _ _ from CI.out z0 W13 Iz0_13.out.at hkz0.out).mono ?_
  rintro e W14 ⟨gz, rfl, hk, ho, hi, hb⟩
  have hkgz := Lib.hid hk
  clear hk
  have A0_14 := Lib.hid (A0_13.out.on hb)
  have Igs_14 := Lib.hid (Igs_13.out.on hb)
  have Mgi_14 := Lib.hid (Mgi_13.out.on hb)
  have Iz0_14 := Lib.hid (Iz0_13.out.on hb)
  have Oz0_14 := Lib.hid (Oz0_13.out.on hb)
  clear A0_13
  clear Igs_13
  clear Mgi_13
  clear Iz0_13
  clear Oz0_13
  have hB_14 := hB_13.trans (hb.mono hB_13.size)
  have hz_14 := hb.size
  clear hB_13 hb
  have Igz_14 := Lib.hid hi
  have Ogz_14 := Lib.hid ho
  clear hi ho
  clear Oz0_14
  clear Iz0_14
  go_wp2_with fail
  refine (show Calls _ _ _ _ _ from eqRow_law gz gs W14 Igz_14.out.at Igs_14.out.at (hkgz.out.trans hkgs.out.symm) (by rw [hkgz.out]; exact hvs)).mono ?_
  rintro e W15 ⟨rfl, hb⟩
  have A0_15 := Lib.hid (A0_14.out.on hb)
  have Igs_15 := Lib.hid (Igs_14.out.on hb)
  have Mgi_15 := Lib.hid (Mgi_14.out.on hb)
  have Igz_15 := Lib.hid (Igz_14.out.on hb)
  have Ogz_15 := Lib.hid (Ogz_14.out.on hb)
  clear A0_14
  clear Igs_14
  clear Mgi_14
  clear Igz_14
  clear Ogz_14
  have hB_15 := hB_14.trans (hb.mono hB_14.size)
  have hz_15 := hb.size
  clear hB_14 hb
  go_wp2_with fail
  refine (show Calls _ _ _ _ _ from heldRow_law gi 1 p W15 _ _ Mgi_15.out hs_gi (by omega) Hp.out).mono ?_
  rintro e W16 ⟨rfl, hb⟩
  have A0_16 := Lib.hid (A0_15.out.on hb)
  have Igs_16 := Lib.hid (Igs_15.out.on hb)
  have Mgi_16 := Lib.hid (Mgi_15.out.on hb)
  have Igz_16 := Lib.hid (Igz_15.out.on hb)
  have Ogz_16 := Lib.hid (Ogz_15.out.on hb)
  clear A0_15
  clear Igs_15
  clear Mgi_15
  clear Igz_15
  clear Ogz_15
  have hB_16 := hB_15.trans (hb.mono hB_15.size)
  have hz_16 := hb.size
  clear hB_15 hb
  go_wp2_with fail
  go_ret
  exact ⟨rfl, hB_16⟩

/- The row's step. -/
set_option maxRecDepth 100000 in
set_option maxHeartbeats 4000000 in
theorem lifted (os : Os) (started : os.Started) (H : Type) (enc : TypeId × Value → H) :
    ReturnsInHanded {} Try.checked os 4 .any (Rows.fnExactFarthestFirstSpec.pre6 enc Try.prog Try.f4 Rows.fnExactFarthestFirstRow.domain false) (Rows.fnExactFarthestFirstSpec.post enc Try.prog Try.f4 false true false false) := by
  refine returnsInHanded_of_change_shaped (C := Try.checked) own started (by kernel_rfl) Try.func4
    (ChangeSpec.witness6 (enc := enc) (C := Try.checked) false ⟨#[], #[.slice none 0 0, .int .i64 0], []⟩ 8 (by kernel_rfl) (by kernel_rfl) (by kernel_rfl) (by kernel_rfl)) ?_
  intro W base args ds gs before hval0 hW hcnd hsz0 hShape _
  have hval : ∀ (j : Nat) t v, Try.f4.params[j]? = some t → args[j]? = some v → Value.okWide Try.prog W .any base t v := hval0
  have hW' := hW
  obtain ⟨p, q, hA0, hV, rfl, hfz, hnd⟩ := hW
  have hA : DataW.TrodAll enc Try.prog W 0 (fun _ => true) true Try.f4.params.toList args.toList ds p := hA0
  rw [Try.params4] at hA hval
  obtain ⟨v0, vs0, d0, ds0, p0, q0, hargs, rfl, rfl, h0, more0⟩ := trodAll_cons hA
  obtain ⟨v1, vs1, d1, ds1, p1, q1, rfl, rfl, rfl, h1, more1⟩ := trodAll_cons more0
  obtain ⟨rfl, rfl, rfl⟩ := trodAll_nil more1
  obtain rfl : args = #[v0, v1] := by cases args; simp_all
  obtain ⟨rfl, rfl⟩ := trodVars_none hV
  have k0 := h0
  have lt0 : ∀ x ∈ p0, x.block < W.heap.size := by obtain ⟨m, hm⟩ := k0; exact DataW.trod_lt m _ _ _ hm
  obtain ⟨T0, rfl, w0⟩ := open_tab (P := Try.prog) (W := W) Try.underlying22 Try.underlying24 Try.underlying3 (by kernel_rfl) (by kernel_rfl) (hval 0 22 v0 rfl rfl) h0
  obtain ⟨a1, rfl, rfl, rfl, w1⟩ := open_int Try.underlying3 (hval 1 3 v1 rfl rfl) h1
  clear hA0 hval0
  refine (walk W T0 w0 a1 w1 ).mono fun e W' ⟨he, bel⟩ => ?_
  subst he
  exact ⟨_, rfl, _, _, _, [], _, [], hW', trodAll_mk1 (shut_bool Try.underlying4 _), (trodAll_cons_mk (Below.trod laidOut (by kernel_rfl) (of_decide_eq_true (by kernel_rfl)) k0 bel lt0) (trodAll_cons_mk (shut_int Try.underlying3 w1) trodAll_mk0)), rfl, bel.frame _, fun h => by cases h⟩

theorem over : Rows.fnExactFarthestFirstRow.holds Try.pinned (OpenSpec.ofChange Rows.fnExactFarthestFirstSpec) :=
  OpenClaim.holds_of_wide 4 Try.f4 rfl rfl rfl rfl rfl rfl rfl ⟨rfl, rfl, rfl, rfl, rfl⟩ rfl rfl rfl rfl rfl (by kernel_rfl) Try.func4 (by kernel_rfl)
    (of_decide_eq_true (by kernel_rfl)) (by unfold Func.isWrapper; first | (rw [if_pos (by decide +kernel)]; kernel_rfl) | (rw [if_neg (by decide +kernel)]; exact ⟨rfl, rfl⟩))
    (fun os started H enc _ => lifted os started H enc)

/-- The statement. -/
theorem proved : Rows.FnExactFarthestFirstSaid :=
  over
#print axioms proved
end Go.Proofs.Ytddnadipleknoaa.fnExactFarthestFirst
