/- Proved here: called with any arguments, the law FnExactProvesApart returns true and the arguments read afterwards as they read before: impl.ProvesApart answers as its model does, whether lists are groups that prove a number.
   Conditions: none but the statement's own (the arguments can be read as data). -/
import Derived.Test.YtmbgipllkbahpaaRows
import Derived.WalkKit
import Derived.ProofKit
import Derived.OpenShut
import Derived.ShutString
import Derived.Below
import Derived.ChangeOld
import Derived.HandedShaped
import Derived.Test.YtmbgipllkbahpaaOpen
import Derived.Test.YtmbgipllkbahpaaPairProvesApart
namespace Go.Proofs.Ytmbgipllkbahpaa.fnExactProvesApart
open Go.ChangeShapes Go.WideShapes Go.ChangeAt Go.RowKit
open Go.ChangeMaps (open_string shut_string)
set_option linter.unusedVariables false

theorem own : ownKnob Try.prog.godebug = none := by kernel_rfl
theorem laidOut : laidOutB Try.prog = true := by kernel_rfl
/- The walk of the law's body. -/
set_option maxRecDepth 100000 in
set_option maxHeartbeats 1500000 in
theorem walk (W : World) (T0 : Tab) (w0 : T0.At W) (T1 : Tab) (w1 : T1.At W) (a2 : Int) (w2 : (Lit.int .i64 a2).wf = true)  :
    Calls Try.prog 6 #[T0.val, T1.val, .int .i64 a2] W fun e w' => e = .returned (.bool true) ∧ Below W.heap.size W w' := by
  have hB_0 := Below.refl W.heap.size W
  have A0_0 := Lib.hid w0.in
  clear w0
  have A1_0 := Lib.hid w1.in
  clear w1
  show Calls _ _ #[.slice T0.a T0.R.length T0.c, .slice T1.a T1.R.length T1.c, .int .i64 a2] _ _
  go_enter Try.func6, Try.ntmps6
  go_wp2_with fail
  refine (show Calls _ _ _ _ _ from szTab_law T0 1048576 W A0_0.out.at (by omega) (by omega)).mono ?_
  rintro e W1 ⟨⟨left0, rfl, hl0, hm0⟩, hb⟩
  have A0_1 := Lib.hid (A0_0.out.on hb)
  have A1_1 := Lib.hid (A1_0.out.on hb)
  clear A0_0
  clear A1_0
  have hB_1 := hB_0.trans (hb.mono hB_0.size)
  have hz_1 := hb.size
  clear hB_0 hb
  by_cases hng0 : left0 < 0
  · go_wp2
    go_ret
    exact ⟨rfl, hB_1⟩
  have hs0 : T0.Small := by unfold Tab.Small; have := hl0 (by omega); omega
  have hle0 : left0 ≤ 1048576 := hm0
  go_wp2_with fail
  refine (show Calls _ _ _ _ _ from szTab_law T1 left0 W1 A1_1.out.at (by omega) (by omega)).mono ?_
  rintro e W2 ⟨⟨left1, rfl, hl1, hm1⟩, hb⟩
  have A0_2 := Lib.hid (A0_1.out.on hb)
  have A1_2 := Lib.hid (A1_1.out.on hb)
  clear A0_1
  clear A1_1
  have hB_2 := hB_1.trans (hb.mono hB_1.size)
  have hz_2 := hb.size
  clear hB_1 hb
  by_cases hng1 : left1 < 0
  · go_wp2
    go_ret
    exact ⟨rfl, hB_2⟩
  have hs1 : T1.Small := by unfold Tab.Small; have := hl1 (by omega); omega
  have hle1 : left1 ≤ 1048576 := hm1
  obtain ⟨v, b, cs, ci⟩ := provesApart_pair T0 T1 a2 w2 hs0 hs1
  have CS := Lib.hid cs
  have CI := Lib.hid ci
  clear cs ci
  go_wp2_with fail
  refine (show Calls _ _ _ _ _ from toTab_law T0 W2 A0_2.out.at hs0).mono ?_
  rintro e W3 ⟨c0, rfl, hk, ho, hi, hb⟩
  have hkc0 := Lib.hid hk
  clear hk
  have A0_3 := Lib.hid (A0_2.out.on hb)
  have A1_3 := Lib.hid (A1_2.out.on hb)
  clear A0_2
  clear A1_2
  have hB_3 := hB_2.trans (hb.mono hB_2.size)
  have hz_3 := hb.size
  clear hB_2 hb
  have Ic0_3 := Lib.hid hi
  have Oc0_3 := Lib.hid ho
  clear hi ho
  go_wp2_with fail
  refine (show Calls _ _ _ _ _ from toTab_law T1 W3 A1_3.out.at hs1).mono ?_
  rintro e W4 ⟨c1, rfl, hk, ho, hi, hb⟩
  have hkc1 := Lib.hid hk
  clear hk
  have A0_4 := Lib.hid (A0_3.out.on hb)
  have A1_4 := Lib.hid (A1_3.out.on hb)
  have Ic0_4 := Lib.hid (Ic0_3.out.on hb)
  have Oc0_4 := Lib.hid (Oc0_3.out.on hb)
  clear A0_3
  clear A1_3
  clear Ic0_3
  clear Oc0_3
  have hB_4 := hB_3.trans (hb.mono hB_3.size)
  have hz_4 := hb.size
  clear hB_3 hb
  have Ic1_4 := Lib.hid hi
  have Oc1_4 := Lib.hid ho
  clear hi ho
  go_wp2_with fail
  refine (show Calls _ _ _ _ _ from CS.out c0 c1 W4 Ic0_4.out.at Ic1_4.out.at hkc0.out hkc1.out).mono ?_
  rintro e W5 ⟨rfl, hb⟩
  have A0_5 := Lib.hid (A0_4.out.on hb)
  have A1_5 := Lib.hid (A1_4.out.on hb)
  have Ic0_5 := Lib.hid (Ic0_4.out.on hb)
  have Oc0_5 := Lib.hid (Oc0_4.out.on hb)
  have Ic1_5 := Lib.hid (Ic1_4.out.on hb)
  have Oc1_5 := Lib.hid (Oc1_4.out.on hb)
  clear A0_4
  clear A1_4
  clear Ic0_4
  clear Oc0_4
  clear Ic1_4
  clear Oc1_4
  have hB_5 := hB_4.trans (hb.mono hB_4.size)
  have hz_5 := hb.size
  clear hB_4 hb
  clear Oc0_5
  clear Ic0_5
  clear Oc1_5
  clear Ic1_5
  go_wp2_with fail
  refine (show Calls _ _ _ _ _ from toTab_law T0 W5 A0_5.out.at hs0).mono ?_
  rintro e W6 ⟨x0, rfl, hk, ho, hi, hb⟩
  have hkx0 := Lib.hid hk
  clear hk
  have A0_6 := Lib.hid (A0_5.out.on hb)
  have A1_6 := Lib.hid (A1_5.out.on hb)
  clear A0_5
  clear A1_5
  have hB_6 := hB_5.trans (hb.mono hB_5.size)
  have hz_6 := hb.size
  clear hB_5 hb
  have Ix0_6 := Lib.hid hi
  have Ox0_6 := Lib.hid ho
  clear hi ho
  go_wp2_with fail
  refine (show Calls _ _ _ _ _ from toTab_law T1 W6 A1_6.out.at hs1).mono ?_
  rintro e W7 ⟨x1, rfl, hk, ho, hi, hb⟩
  have hkx1 := Lib.hid hk
  clear hk
  have A0_7 := Lib.hid (A0_6.out.on hb)
  have A1_7 := Lib.hid (A1_6.out.on hb)
  have Ix0_7 := Lib.hid (Ix0_6.out.on hb)
  have Ox0_7 := Lib.hid (Ox0_6.out.on hb)
  clear A0_6
  clear A1_6
  clear Ix0_6
  clear Ox0_6
  have hB_7 := hB_6.trans (hb.mono hB_6.size)
  have hz_7 := hb.size
  clear hB_6 hb
  have Ix1_7 := Lib.hid hi
  have Ox1_7 := Lib.hid ho
  clear hi ho
  go_wp2_with fail
  refine (show Calls _ _ _ _ _ from CI.out x0 x1 W7 Ix0_7.out.at Ix1_7.out.at hkx0.out hkx1.out).mono ?_
  rintro e W8 ⟨rfl, hb⟩
  have A0_8 := Lib.hid (A0_7.out.on hb)
  have A1_8 := Lib.hid (A1_7.out.on hb)
  have Ix0_8 := Lib.hid (Ix0_7.out.on hb)
  have Ox0_8 := Lib.hid (Ox0_7.out.on hb)
  have Ix1_8 := Lib.hid (Ix1_7.out.on hb)
  have Ox1_8 := Lib.hid (Ox1_7.out.on hb)
  clear A0_7
  clear A1_7
  clear Ix0_7
  clear Ox0_7
  clear Ix1_7
  clear Ox1_7
  have hB_8 := hB_7.trans (hb.mono hB_7.size)
  have hz_8 := hb.size
  clear hB_7 hb
  go_wp2_with fail
  refine (show Calls _ _ _ _ _ from toTab_law T0 W8 A0_8.out.at hs0).mono ?_
  rintro e W9 ⟨y0, rfl, hk, -, hi, hb⟩
  have hky0 := Lib.hid hk
  clear hk
  have A0_9 := Lib.hid (A0_8.out.on hb)
  have A1_9 := Lib.hid (A1_8.out.on hb)
  have Ix0_9 := Lib.hid (Ix0_8.out.on hb)
  have Ox0_9 := Lib.hid (Ox0_8.out.on hb)
  have Ix1_9 := Lib.hid (Ix1_8.out.on hb)
  have Ox1_9 := Lib.hid (Ox1_8.out.on hb)
  clear A0_8
  clear A1_8
  clear Ix0_8
  clear Ox0_8
  clear Ix1_8
  clear Ox1_8
  have hB_9 := hB_8.trans (hb.mono hB_8.size)
  have hz_9 := hb.size
  clear hB_8 hb
  have hyx0 := eqTab_law x0 y0 W9 Ix0_9.out.at hi.at (hkx0.out.trans hky0.out.symm) (Tab.Small.rows hs0 hkx0.out).1 (Tab.Small.rows hs0 hkx0.out).2.2
  clear hi
  go_wp2_with fail
  refine (show Calls _ _ _ _ _ from hyx0).mono ?_
  rintro e W10 ⟨rfl, hb⟩
  clear hyx0
  have A0_10 := Lib.hid (A0_9.out.on hb)
  have A1_10 := Lib.hid (A1_9.out.on hb)
  have Ix0_10 := Lib.hid (Ix0_9.out.on hb)
  have Ox0_10 := Lib.hid (Ox0_9.out.on hb)
  have Ix1_10 := Lib.hid (Ix1_9.out.on hb)
  have Ox1_10 := Lib.hid (Ox1_9.out.on hb)
  clear A0_9
  clear A1_9
  clear Ix0_9
  clear Ox0_9
  clear Ix1_9
  clear Ox1_9
  have hB_10 := hB_9.trans (hb.mono hB_9.size)
  have hz_10 := hb.size
  clear hB_9 hb
  go_wp2_with fail
  refine (show Calls _ _ _ _ _ from toTab_law T1 W10 A1_10.out.at hs1).mono ?_
  rintro e W11 ⟨y1, rfl, hk, -, hi, hb⟩
  have hky1 := Lib.hid hk
  clear hk
  have A0_11 := Lib.hid (A0_10.out.on hb)
  have A1_11 := Lib.hid (A1_10.out.on hb)
  have Ix0_11 := Lib.hid (Ix0_10.out.on hb)
  have Ox0_11 := Lib.hid (Ox0_10.out.on hb)
  have Ix1_11 := Lib.hid (Ix1_10.out.on hb)
  have Ox1_11 := Lib.hid (Ox1_10.out.on hb)
  clear A0_10
  clear A1_10
  clear Ix0_10
  clear Ox0_10
  clear Ix1_10
  clear Ox1_10
  have hB_11 := hB_10.trans (hb.mono hB_10.size)
  have hz_11 := hb.size
  clear hB_10 hb
  have hyx1 := eqTab_law x1 y1 W11 Ix1_11.out.at hi.at (hkx1.out.trans hky1.out.symm) (Tab.Small.rows hs1 hkx1.out).1 (Tab.Small.rows hs1 hkx1.out).2.2
  clear hi
  go_wp2_with fail
  refine (show Calls _ _ _ _ _ from hyx1).mono ?_
  rintro e W12 ⟨rfl, hb⟩
  clear hyx1
  have A0_12 := Lib.hid (A0_11.out.on hb)
  have A1_12 := Lib.hid (A1_11.out.on hb)
  have Ix0_12 := Lib.hid (Ix0_11.out.on hb)
  have Ox0_12 := Lib.hid (Ox0_11.out.on hb)
  have Ix1_12 := Lib.hid (Ix1_11.out.on hb)
  have Ox1_12 := Lib.hid (Ox1_11.out.on hb)
  clear A0_11
  clear A1_11
  clear Ix0_11
  clear Ox0_11
  clear Ix1_11
  clear Ox1_11
  have hB_12 := hB_11.trans (hb.mono hB_11.size)
  have hz_12 := hb.size
  clear hB_11 hb
  go_wp2_with fail
  go_ret
  exact ⟨rfl, hB_12⟩

/- The row's step. -/
set_option maxRecDepth 100000 in
set_option maxHeartbeats 4000000 in
theorem lifted (os : Os) (started : os.Started) (H : Type) (enc : TypeId × Value → H) :
    ReturnsInHanded {} Try.checked os 6 .any (Rows.fnExactProvesApartSpec.pre6 enc Try.prog Try.f6 Rows.fnExactProvesApartRow.domain false) (Rows.fnExactProvesApartSpec.post enc Try.prog Try.f6 false true false false) := by
  refine returnsInHanded_of_change_shaped (C := Try.checked) own started (by kernel_rfl) Try.func6
    (ChangeSpec.witness6 (enc := enc) (C := Try.checked) false ⟨#[], #[.slice none 0 0, .slice none 0 0, .int .i64 0], []⟩ 8 (by kernel_rfl) (by kernel_rfl) (by kernel_rfl) (by kernel_rfl)) ?_
  intro W base args ds gs before hval0 hW hcnd hsz0 hShape _
  have hval : ∀ (j : Nat) t v, Try.f6.params[j]? = some t → args[j]? = some v → Value.okWide Try.prog W .any base t v := hval0
  have hW' := hW
  obtain ⟨p, q, hA0, hV, rfl, hfz, hnd⟩ := hW
  have hA : DataW.TrodAll enc Try.prog W 0 (fun _ => true) true Try.f6.params.toList args.toList ds p := hA0
  rw [Try.params6] at hA hval
  obtain ⟨v0, vs0, d0, ds0, p0, q0, hargs, rfl, rfl, h0, more0⟩ := trodAll_cons hA
  obtain ⟨v1, vs1, d1, ds1, p1, q1, rfl, rfl, rfl, h1, more1⟩ := trodAll_cons more0
  obtain ⟨v2, vs2, d2, ds2, p2, q2, rfl, rfl, rfl, h2, more2⟩ := trodAll_cons more1
  obtain ⟨rfl, rfl, rfl⟩ := trodAll_nil more2
  obtain rfl : args = #[v0, v1, v2] := by cases args; simp_all
  obtain ⟨rfl, rfl⟩ := trodVars_none hV
  have k0 := h0
  have lt0 : ∀ x ∈ p0, x.block < W.heap.size := by obtain ⟨m, hm⟩ := k0; exact DataW.trod_lt m _ _ _ hm
  obtain ⟨T0, rfl, w0⟩ := open_tab (P := Try.prog) (W := W) Try.underlying22 Try.underlying29 Try.underlying3 (by kernel_rfl) (by kernel_rfl) (hval 0 22 v0 rfl rfl) h0
  have k1 := h1
  have lt1 : ∀ x ∈ p1, x.block < W.heap.size := by obtain ⟨m, hm⟩ := k1; exact DataW.trod_lt m _ _ _ hm
  obtain ⟨T1, rfl, w1⟩ := open_tab (P := Try.prog) (W := W) Try.underlying22 Try.underlying29 Try.underlying3 (by kernel_rfl) (by kernel_rfl) (hval 1 22 v1 rfl rfl) h1
  obtain ⟨a2, rfl, rfl, rfl, w2⟩ := open_int Try.underlying3 (hval 2 3 v2 rfl rfl) h2
  clear hA0 hval0
  refine (walk W T0 w0 T1 w1 a2 w2 ).mono fun e W' ⟨he, bel⟩ => ?_
  subst he
  exact ⟨_, rfl, _, _, _, [], _, [], hW', trodAll_mk1 (shut_bool Try.underlying4 _), (trodAll_cons_mk (Below.trod laidOut (by kernel_rfl) (of_decide_eq_true (by kernel_rfl)) k0 bel lt0) (trodAll_cons_mk (Below.trod laidOut (by kernel_rfl) (of_decide_eq_true (by kernel_rfl)) k1 bel lt1) (trodAll_cons_mk (shut_int Try.underlying3 w2) trodAll_mk0))), rfl, bel.frame _, fun h => by cases h⟩

theorem over : Rows.fnExactProvesApartRow.holds Try.pinned (OpenSpec.ofChange Rows.fnExactProvesApartSpec) :=
  OpenClaim.holds_of_wide 6 Try.f6 rfl rfl rfl rfl rfl rfl rfl ⟨rfl, rfl, rfl, rfl, rfl⟩ rfl rfl rfl rfl rfl (by kernel_rfl) Try.func6 (by kernel_rfl)
    (of_decide_eq_true (by kernel_rfl)) (by unfold Func.isWrapper; first | (rw [if_pos (by decide +kernel)]; kernel_rfl) | (rw [if_neg (by decide +kernel)]; exact ⟨rfl, rfl⟩))
    (fun os started H enc _ => lifted os started H enc)

/-- The statement. -/
theorem proved : Rows.FnExactProvesApartSaid :=
  over
#print axioms proved
end Go.Proofs.Ytmbgipllkbahpaa.fnExactProvesApart
