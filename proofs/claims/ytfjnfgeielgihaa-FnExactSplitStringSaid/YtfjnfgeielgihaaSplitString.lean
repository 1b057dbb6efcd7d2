/- Proved here: called with any two strings, the law FnExactSplitString returns true and both strings read afterwards as they read before, so impl.SplitString answers as its model does and its answer owns its memory.
   Conditions: none but the statement's own (the arguments can be read as data). -/
import Derived.Test.YtfjnfgeielgihaaRows
import Derived.WalkKit
import Derived.ProofKit
import Derived.OpenShut
import Derived.ShutString
import Derived.Below
import Derived.ChangeOld
import Derived.HandedShaped
import Derived.Test.YtfjnfgeielgihaaSplitImpl
import Derived.Test.YtfjnfgeielgihaaMark
namespace Go.Proofs.Ytfjnfgeielgihaa.fnExactSplitString
open Go.ChangeShapes Go.WideShapes Go.ChangeAt Go.RowKit
open Go.ChangeMaps (open_string shut_string)
set_option linter.unusedVariables false

theorem own : ownKnob Try.prog.godebug = none := by kernel_rfl
theorem laidOut : laidOutB Try.prog = true := by kernel_rfl
/- The walk of the law's body. -/
set_option maxHeartbeats 1600000 in
theorem walk (W : World) (a0 : ByteArray) (w0 : a0.size ≤ maxLen) (a1 : ByteArray) (w1 : a1.size ≤ maxLen)  :
    Calls Try.prog 4 #[.string a0, .string a1] W fun e w' => e = .returned (.bool true) ∧ Below W.heap.size W w' := by
  unfold maxLen at w0 w1
  have ba : (a0.size : Int) ≤ 9223372036854775807 := by omega
  have bb : (a1.size : Int) ≤ 9223372036854775807 := by omega
  by_cases h0 : (1048576 : Int) < a0.size
  · go_enter Try.func4, Try.ntmps4
    go_wp2
    go_ret
    exact ⟨rfl, Below.refl _ _⟩
  by_cases h1 : (1048576 : Int) < a1.size
  · go_enter Try.func4, Try.ntmps4
    go_wp2
    go_ret
    exact ⟨rfl, Below.refl _ _⟩
  -- one contract for both functions: the same list l and the same answer b
  obtain ⟨l, b, hl, cs, ci⟩ : ∃ (l : List ByteArray) (b : Bool), l.length ≤ 1048576 ∧
      (∀ W, Calls Try.prog 17 #[.string a0, .string a1] W fun e w' => ∃ v, e = .returned (.tuple #[v, .bool b]) ∧ w'.ownsRow W.heap.size 9 1 v l.length (sv l) ∧ Below W.heap.size W w') ∧
      (∀ W, Calls Try.prog 10 #[.string a0, .string a1] W fun e w' => ∃ v, e = .returned (.tuple #[v, .bool b]) ∧ w'.ownsRow W.heap.size 9 1 v l.length (sv l) ∧ Below W.heap.size W w') := by
    by_cases hz : a0.size ≤ 4000 ∧ a1.size = 1
    · exact ⟨parts a0 (a1[0]'(by omega)), true, by have := parts_len a0 (a1[0]'(by omega)); omega, fun W => specSplit_yes a0 a1 W hz.1 hz.2, fun W => implSplit_yes a0 a1 W hz.1 hz.2⟩
    · exact ⟨[], false, by simp, fun W => specSplit_no a0 a1 W (by omega) (by omega), fun W => implSplit_no a0 a1 W (by omega) (by omega)⟩
  have hli : (l.length : Int) ≤ 1048576 := by omega
  go_enter Try.func4, Try.ntmps4
  go_wp2_with fail
  refine (cs _).mono ?_
  rintro e w1 ⟨v1, rfl, ho1, hb1⟩
  obtain ⟨p1, c1, rfl, hR1, _⟩ := own_shape ho1
  clear ho1 cs
  go_wp2_with fail
  refine (ci _).mono ?_
  rintro e w2 ⟨v2, rfl, ho2, hb2⟩
  obtain ⟨p2, c2, rfl, hR2, _⟩ := own_shape ho2
  have hR12 := hR1.on hb2
  go_wp2_with fail
  refine (eqStrs_same _ _ _ _ _ _ hR2 hR12 hl).mono ?_
  rintro e w3 ⟨rfl, d, rfl⟩
  have hd3 : Below w2.heap.size w2 (w2.drewN d) := DrewTo.below ⟨d, rfl⟩
  have ho3 := owns_below ho2 hd3
  have hb3 : Below w1.heap.size w1 (w2.drewN d) := hb2.trans (hd3.mono hb2.size)
  clear hR2 hR12 ho2 hd3 hb2
  obtain ⟨w3, hw3⟩ : ∃ w3, w3 = w2.drewN d := ⟨_, rfl⟩
  rw [← hw3] at hb3 ho3 ⊢
  clear hw3
  have hw1 : w1.heap.size ≤ w3.heap.size := hb3.size
  go_wp2_with fail
  refine (mark_any _ _ 1 _ _ _ ho3 hl (by omega) (by omega) hw1).mono ?_
  rintro e w4 ⟨rfl, hM4, hb4⟩
  have hB4 := hb3.trans hb4
  clear ho3 hb3 hb4 hw1
  obtain ⟨q, hq⟩ : ∃ q : Nat, q = 1 + l.length := ⟨_, rfl⟩
  rw [← hq]
  have HQ := Lib.hid hq
  clear hq
  have hqi : (q : Int) ≤ 1048577 := by have := HQ.out; omega
  have hq0 : ¬ (q : Int) < 0 := by omega
  have ch : ∀ W, RowAt W p2 c2 (sv (marks 1 l.length)) → Calls Try.prog 20 #[.slice p2 l.length c2, .int .i64 1] W fun e w' => e = .returned (.int .i64 (q : Int)) ∧ Below W.heap.size W w' := fun W h => by
    have := held_any p2 c2 1 l.length W h hl (by omega) (by omega); rw [← HQ.out] at this; exact this
  go_wp2_with fail
  refine (ch _ hM4).mono ?_
  rintro e w5 ⟨rfl, hb5⟩
  have hM5 := hM4.on hb5
  have hB5 := hB4.trans (hb5.mono hB4.size)
  clear hM4 hb5 hB4
  go_wp2_with fail
  refine (ci _).mono ?_
  rintro e w6 ⟨v6, rfl, ho6, hb6⟩
  obtain ⟨p6, c6, rfl, hR6, _⟩ := own_shape ho6
  have hM6 := hM5.on hb6
  have hB6 := hB5.trans (hb6.mono hB5.size)
  have hR16 := hR1.on hB6
  clear hM5 hb6 hB5 ho6 ci
  go_wp2_with fail
  refine (eqStrs_same _ _ _ _ _ _ hR6 hR16 hl).mono ?_
  rintro e w7 ⟨rfl, d', rfl⟩
  have hd7 : Below w6.heap.size w6 (w6.drewN d') := DrewTo.below ⟨d', rfl⟩
  have hM7 := hM6.on hd7
  have hB7 := hB6.trans (hd7.mono hB6.size)
  clear hM6 hd7 hB6 hR6 hR16
  obtain ⟨w7, hw7⟩ : ∃ w7, w7 = w6.drewN d' := ⟨_, rfl⟩
  rw [← hw7] at hM7 hB7 ⊢
  clear hw7
  go_wp2_with fail
  refine (ch _ hM7).mono ?_
  rintro e w8 ⟨rfl, hb8⟩
  have hB8 := hB7.trans (hb8.mono hB7.size)
  clear hM7 hb8 hB7 ch
  go_wp2_with fail
  go_ret
  exact ⟨rfl, hb1.trans (hB8.mono hb1.size)⟩

/- The row's step. -/
set_option maxRecDepth 100000 in
theorem lifted (os : Os) (started : os.Started) (H : Type) (enc : TypeId × Value → H) :
    ReturnsInHanded {} Try.checked os 4 .any (Rows.fnExactSplitStringSpec.pre6 enc Try.prog Try.f4 Rows.fnExactSplitStringRow.domain false) (Rows.fnExactSplitStringSpec.post enc Try.prog Try.f4 false true false false) := by
  refine returnsInHanded_of_change_shaped (C := Try.checked) own started (by kernel_rfl) Try.func4
    (ChangeSpec.witness6 (enc := enc) (C := Try.checked) false ⟨#[], #[.string ByteArray.empty, .string ByteArray.empty], []⟩ 8 (by kernel_rfl) (by kernel_rfl) (by kernel_rfl) (by kernel_rfl)) ?_
  intro W base args ds gs before hval0 hW hcnd hsz0 hShape _
  have hval : ∀ (j : Nat) t v, Try.f4.params[j]? = some t → args[j]? = some v → Value.okWide Try.prog W .any base t v := hval0
  have hW' := hW
  obtain ⟨p, q, hA0, hV, rfl, hfz, hnd⟩ := hW
  have hA : DataW.TrodAll enc Try.prog W 0 (fun _ => true) true Try.f4.params.toList args.toList ds p := hA0
  rw [Try.params4] at hA hval
  obtain ⟨v0, vs0, d0, ds0, p0, q0, hargs, rfl, rfl, h0, r0⟩ := trodAll_cons hA
  obtain ⟨v1, vs1, d1, ds1, p1, q1, rfl, rfl, rfl, h1, r1⟩ := trodAll_cons r0
  obtain ⟨rfl, rfl, rfl⟩ := trodAll_nil r1
  obtain rfl : args = #[v0, v1] := by cases args; simp_all
  obtain ⟨rfl, rfl⟩ := trodVars_none hV
  obtain ⟨a0, rfl, rfl, rfl, w0⟩ := open_string Try.underlying9 (hval 0 9 v0 rfl rfl) h0
  obtain ⟨a1, rfl, rfl, rfl, w1⟩ := open_string Try.underlying9 (hval 1 9 v1 rfl rfl) h1
  clear hA0 hval0
  simp only [List.append_nil] at hW'
  refine (walk W a0 w0 a1 w1 ).mono fun e W' ⟨he, bel⟩ => ?_
  subst he
  exact ⟨_, rfl, _, _, _, [], _, [], hW', trodAll_mk1 (shut_bool Try.underlying4 _), (trodAll_cons_mk (shut_string Try.underlying9 w0) (trodAll_cons_mk (shut_string Try.underlying9 w1) trodAll_mk0)), rfl, bel.frame _, fun h => by cases h⟩

theorem over : Rows.fnExactSplitStringRow.holds Try.pinned (OpenSpec.ofChange Rows.fnExactSplitStringSpec) :=
  OpenClaim.holds_of_wide 4 Try.f4 rfl rfl rfl rfl rfl rfl rfl ⟨rfl, rfl, rfl, rfl, rfl⟩ rfl rfl rfl rfl rfl (by kernel_rfl) Try.func4 (by kernel_rfl)
    (of_decide_eq_true (by kernel_rfl)) (by unfold Func.isWrapper; first | (rw [if_pos (by decide +kernel)]; kernel_rfl) | (rw [if_neg (by decide +kernel)]; exact ⟨rfl, rfl⟩))
    (fun os started H enc _ => lifted os started H enc)

/-- The statement. -/
theorem proved : Rows.FnExactSplitStringSaid :=
  over
#print axioms proved
end Go.Proofs.Ytfjnfgeielgihaa.fnExactSplitString
