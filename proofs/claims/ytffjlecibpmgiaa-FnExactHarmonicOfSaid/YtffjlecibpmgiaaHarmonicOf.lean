/- Proved here: called with any arguments, the law FnExactHarmonicOf returns true and the arguments read afterwards as they read before: impl.HarmonicOf answers as its model does, 840 times the sum of 1, 1/2, .. up to 1/k.
   Conditions: none but the statement's own (the arguments can be read as data). -/
import Derived.Test.YtffjlecibpmgiaaRows
import Derived.WalkKit
import Derived.ProofKit
import Derived.OpenShut
import Derived.ShutString
import Derived.Below
import Derived.ChangeOld
import Derived.HandedShaped
import Derived.Test.YtffjlecibpmgiaaOpen
import Derived.Test.YtffjlecibpmgiaaPairHarmonicOf
namespace Go.Proofs.Ytffjlecibpmgiaa.fnExactHarmonicOf
open Go.ChangeShapes Go.WideShapes Go.ChangeAt Go.RowKit
open Go.ChangeMaps (open_string shut_string)
set_option linter.unusedVariables false

theorem own : ownKnob Try.prog.godebug = none := by kernel_rfl
theorem laidOut : laidOutB Try.prog = true := by kernel_rfl
/- The walk of the law's body. -/
set_option maxRecDepth 100000 in
set_option maxHeartbeats 1500000 in
theorem walk (W : World) (a0 : Int) (w0 : (Lit.int .i64 a0).wf = true)  :
    Calls Try.prog 7 #[.int .i64 a0] W fun e w' => e = .returned (.bool true) ∧ Below W.heap.size W w' := by
  have hB_0 := Below.refl W.heap.size W
  show Calls _ _ #[.int .i64 a0] _ _
  go_enter Try.func7, Try.ntmps7
  obtain ⟨v, b, cs, ci⟩ := harmonicOf_pair a0 w0
  have CS := Lib.hid cs
  have CI := Lib.hid ci
  clear cs ci
  go_wp2_with fail
  refine (show Calls _ _ _ _ _ from CS.out  W  ).mono ?_
  rintro e W1 ⟨rfl, hb⟩
  have hB_1 := hB_0.trans (hb.mono hB_0.size)
  have hz_1 := hb.size
  clear hB_0 hb
  go_wp2_with fail
  refine (show Calls _ _ _ _ _ from CI.out  W1  ).mono ?_
  rintro e W2 ⟨rfl, hb⟩
  have hB_2 := hB_1.trans (hb.mono hB_1.size)
  have hz_2 := hb.size
  clear hB_1 hb
  go_wp2_with fail
  go_ret
  exact ⟨rfl, hB_2⟩

/- The row's step. -/
set_option maxRecDepth 100000 in
set_option maxHeartbeats 4000000 in
theorem lifted (os : Os) (started : os.Started) (H : Type) (enc : TypeId × Value → H) :
    ReturnsInHanded {} Try.checked os 7 .any (Rows.fnExactHarmonicOfSpec.pre6 enc Try.prog Try.f7 Rows.fnExactHarmonicOfRow.domain false) (Rows.fnExactHarmonicOfSpec.post enc Try.prog Try.f7 false true false false) := by
  refine returnsInHanded_of_change_shaped (C := Try.checked) own started (by kernel_rfl) Try.func7
    (ChangeSpec.witness6 (enc := enc) (C := Try.checked) false ⟨#[], #[.int .i64 0], []⟩ 8 (by kernel_rfl) (by kernel_rfl) (by kernel_rfl) (by kernel_rfl)) ?_
  intro W base args ds gs before hval0 hW hcnd hsz0 hShape _
  have hval : ∀ (j : Nat) t v, Try.f7.params[j]? = some t → args[j]? = some v → Value.okWide Try.prog W .any base t v := hval0
  have hW' := hW
  obtain ⟨p, q, hA0, hV, rfl, hfz, hnd⟩ := hW
  have hA : DataW.TrodAll enc Try.prog W 0 (fun _ => true) true Try.f7.params.toList args.toList ds p := hA0
  rw [Try.params7] at hA hval
  obtain ⟨v0, vs0, d0, ds0, p0, q0, hargs, rfl, rfl, h0, more0⟩ := trodAll_cons hA
  obtain ⟨rfl, rfl, rfl⟩ := trodAll_nil more0
  obtain rfl : args = #[v0] := by cases args; simp_all
  obtain ⟨rfl, rfl⟩ := trodVars_none hV
  obtain ⟨a0, rfl, rfl, rfl, w0⟩ := open_int Try.underlying3 (hval 0 3 v0 rfl rfl) h0
  clear hA0 hval0
  simp only [List.append_nil] at hW'
  refine (walk W a0 w0 ).mono fun e W' ⟨he, bel⟩ => ?_
  subst he
  exact ⟨_, rfl, _, _, _, [], _, [], hW', trodAll_mk1 (shut_bool Try.underlying4 _), (trodAll_cons_mk (shut_int Try.underlying3 w0) trodAll_mk0), rfl, bel.frame _, fun h => by cases h⟩

theorem over : Rows.fnExactHarmonicOfRow.holds Try.pinned (OpenSpec.ofChange Rows.fnExactHarmonicOfSpec) :=
  OpenClaim.holds_of_wide 7 Try.f7 rfl rfl rfl rfl rfl rfl rfl ⟨rfl, rfl, rfl, rfl, rfl⟩ rfl rfl rfl rfl rfl (by kernel_rfl) Try.func7 (by kernel_rfl)
    (of_decide_eq_true (by kernel_rfl)) (by unfold Func.isWrapper; first | (rw [if_pos (by decide +kernel)]; kernel_rfl) | (rw [if_neg (by decide +kernel)]; exact ⟨rfl, rfl⟩))
    (fun os started H enc _ => lifted os started H enc)

/-- The statement. -/
theorem proved : Rows.FnExactHarmonicOfSaid :=
  over
#print axioms proved
end Go.Proofs.Ytffjlecibpmgiaa.fnExactHarmonicOf
