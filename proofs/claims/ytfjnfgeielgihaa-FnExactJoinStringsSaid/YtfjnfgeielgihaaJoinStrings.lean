/- Proved here: called with any list of strings and any separator, the law FnExactJoinStrings returns true and the arguments read afterwards as they read before, so impl.JoinStrings answers as its model does.
   Conditions: none but the statement's own (the arguments can be read as data). -/
import Derived.Test.YtfjnfgeielgihaaRows
import Derived.WalkKit
import Derived.ProofKit
import Derived.OpenShut
import Derived.ShutString
import Derived.Below
import Derived.ChangeOld
import Derived.HandedShaped
import Derived.Test.YtfjnfgeielgihaaJoin
namespace Go.Proofs.Ytfjnfgeielgihaa.fnExactJoinStrings
open Go.ChangeShapes Go.WideShapes Go.ChangeAt Go.RowKit
open Go.ChangeMaps (open_string shut_string)
set_option linter.unusedVariables false

theorem own : ownKnob Try.prog.godebug = none := by kernel_rfl
theorem laidOut : laidOutB Try.prog = true := by kernel_rfl
/- The walk of the law's body. -/
set_option maxHeartbeats 1600000 in
theorem walk (W : World) (a0 : Option Addr) (c0 : Nat) (l0 : List ByteArray) (w0 : RowAt W a0 c0 (sv l0)) (m0 : ∀ s ∈ l0, s.size ≤ maxLen) (a1 : ByteArray) (w1 : a1.size ≤ maxLen)  :
    Calls Try.prog 5 #[.slice a0 l0.length c0, .string a1] W fun e w' => e = .returned (.bool true) ∧ Below W.heap.size W w' := by
  have mx : ∀ s ∈ l0, s.size ≤ maxLen := m0
  have hlc : l0.length ≤ maxLen := by have h1 := w0.1; have h2 := w0.2.1; rw [sv_length] at h1; omega
  unfold maxLen at w1 hlc
  have ba : (a1.size : Int) ≤ 9223372036854775807 := by omega
  have W0 := Lib.hid w0
  have M0 := Lib.hid m0
  clear mx m0 w0
  by_cases h0 : (1048576 : Int) < a1.size
  · go_enter Try.func5, Try.ntmps5
    go_wp2
    go_ret
    exact ⟨rfl, Below.refl _ _⟩
  obtain ⟨r, hr⟩ : ∃ r, r = joinF l0 a1 := ⟨_, rfl⟩
  obtain ⟨j, b⟩ := r
  have cz := fun W' h => szStrs_any a0 c0 l0 1048576 W' h (by omega) (by omega) M0.out
  have ct := fun W' h hn => toStrs_any a0 c0 l0 W' h hn
  have c1 := fun a c W' h hn => specJoin_any a c l0 a1 W' h hn
  have c2 := fun a c W' h hn => implJoin_any a c l0 a1 W' h hn
  rw [← hr] at c1 c2
  simp only [] at c1 c2
  clear hr
  go_enter Try.func5, Try.ntmps5
  go_wp2_with (go_at_call 21; refine (cz _ W0.out).mono ?_; rintro e w' ⟨⟨r, rfl, hr0, hr1⟩, rfl⟩; have HR := Lib.hid hr0; clear hr0)
  · go_ret
    exact ⟨rfl, Below.refl _ _⟩
  have hpos : 0 ≤ r := by assumption
  have hn := HR.out hpos
  have hA := W0.out
  have hn1 : l0.length ≤ 1048576 := by omega
  have hn2 : l0.length + sumSz l0 ≤ 1048576 := by omega
  clear cz HR hn W0
  refine (ct _ hA hn1).mono ?_
  rintro e w1 ⟨rfl, ho1, hb1⟩
  have hR1 := row_of_owns ho1
  have hA1 := hA.on hb1
  clear ho1
  go_wp2_with fail
  refine (c1 _ _ _ hR1 hn2).mono ?_
  rintro e w2 ⟨rfl, hb2⟩
  have hB2 := hb1.trans (hb2.mono hb1.size)
  have hA2 := hA1.on hb2
  clear hR1 hA1 hb1 hb2 c1
  go_wp2_with fail
  refine (ct _ hA2 hn1).mono ?_
  rintro e w3 ⟨rfl, ho3, hb3⟩
  have hR3 := row_of_owns ho3
  have hA3 := hA2.on hb3
  have hB3 := hB2.trans (hb3.mono hB2.size)
  clear ho3 hA2 hB2 hb3
  go_wp2_with fail
  refine (c2 _ _ _ hR3 hn2).mono ?_
  rintro e w4 ⟨rfl, hb4⟩
  have hR4 := hR3.on hb4
  have hA4 := hA3.on hb4
  have hB4 := hB3.trans (hb4.mono hB3.size)
  clear hR3 hA3 hB3 hb4 c2
  go_wp2_with fail
  refine (ct _ hA4 hn1).mono ?_
  rintro e w5 ⟨rfl, ho5, hb5⟩
  have hR5 := row_of_owns ho5
  have hR4' := hR4.on hb5
  have hB5 := hB4.trans (hb5.mono hB4.size)
  clear ho5 hR4 hA4 hB4 hb5 ct
  go_wp2_with fail
  refine (eqStrs_same _ _ _ _ _ _ hR4' hR5 hn1).mono ?_
  rintro e w6 ⟨rfl, d, rfl⟩
  go_wp2_with fail
  go_ret
  exact ⟨rfl, hB5.trans ((DrewTo.below ⟨d, rfl⟩).mono hB5.size)⟩

/- The row's step. -/
set_option maxRecDepth 100000 in
theorem lifted (os : Os) (started : os.Started) (H : Type) (enc : TypeId × Value → H) :
    ReturnsInHanded {} Try.checked os 5 .any (Rows.fnExactJoinStringsSpec.pre6 enc Try.prog Try.f5 Rows.fnExactJoinStringsRow.domain false) (Rows.fnExactJoinStringsSpec.post enc Try.prog Try.f5 false true false false) := by
  refine returnsInHanded_of_change_shaped (C := Try.checked) own started (by kernel_rfl) Try.func5
    (ChangeSpec.witness6 (enc := enc) (C := Try.checked) false ⟨#[], #[.slice none 0 0, .string ByteArray.empty], []⟩ 8 (by kernel_rfl) (by kernel_rfl) (by kernel_rfl) (by kernel_rfl)) ?_
  intro W base args ds gs before hval0 hW hcnd hsz0 hShape _
  have hval : ∀ (j : Nat) t v, Try.f5.params[j]? = some t → args[j]? = some v → Value.okWide Try.prog W .any base t v := hval0
  have hW' := hW
  obtain ⟨p, q, hA0, hV, rfl, hfz, hnd⟩ := hW
  have hA : DataW.TrodAll enc Try.prog W 0 (fun _ => true) true Try.f5.params.toList args.toList ds p := hA0
  rw [Try.params5] at hA hval
  obtain ⟨v0, vs0, d0, ds0, p0, q0, hargs, rfl, rfl, h0, r0⟩ := trodAll_cons hA
  obtain ⟨v1, vs1, d1, ds1, p1, q1, rfl, rfl, rfl, h1, r1⟩ := trodAll_cons r0
  obtain ⟨rfl, rfl, rfl⟩ := trodAll_nil r1
  obtain rfl : args = #[v0, v1] := by cases args; simp_all
  obtain ⟨rfl, rfl⟩ := trodVars_none hV
  obtain ⟨a0, n0, c0, rfl⟩ := okWide_slice Try.underlying26 (hval 0 26 v0 rfl rfl)
  have k0 := h0
  have lt0 : ∀ x ∈ p0, x.block < W.heap.size := by obtain ⟨m, hm⟩ := k0; exact DataW.trod_lt m _ _ _ hm
  obtain ⟨l0, rfl, w0, m0⟩ : ∃ l : List ByteArray, n0 = l.length ∧ RowAt W a0 c0 (sv l) ∧ ∀ s ∈ l, s.size ≤ maxLen := by
    obtain ⟨fuel, hf⟩ := h0
    rcases open_strings Try.underlying26 Try.underlying9 (by kernel_rfl) hf with ⟨hcs, _⟩ | ⟨x, len', cap', ss, hcs, _, hl, hm, hz, _, hcell, hws⟩
    · simp [Value.cells] at hcs
      obtain ⟨rfl, rfl, rfl⟩ := hcs
      exact ⟨[], rfl, ⟨by simp [sv], by decide, .inl rfl⟩, by simp⟩
    · simp [Value.cells] at hcs
      obtain ⟨rfl, rfl, rfl⟩ := hcs
      have hle : n0 ≤ ss.length := by split at hz <;> omega
      refine ⟨ss.take n0, by rw [List.length_take]; omega, ⟨by rw [sv_length, List.length_take]; omega, hm, ?_⟩, fun s hs => hws s (List.mem_of_mem_take hs)⟩
      by_cases h0 : n0 = 0
      · subst h0; exact .inl (by simp [sv])
      · obtain ⟨b, off, spot⟩ := x
        have hc0 := hcell 0 (by omega)
        have hspot : spot = none := by simpa [Addr.add] using World.cell?_spot hc0
        subst hspot
        refine .inr ⟨b, off, rfl, by simpa [Addr.add] using World.block_lt_of_cell? W _ hc0, fun j y hj => ?_⟩
        obtain ⟨hj1, hj2⟩ := List.getElem?_eq_some_iff.1 hj
        rw [sv_length, List.length_take] at hj1
        have := hcell j (by omega)
        rw [← hj2]
        rw [Addr.add_lit] at this
        simpa [sv, List.getD_eq_getElem?_getD, show j < ss.length by omega] using this
  obtain ⟨a1, rfl, rfl, rfl, w1⟩ := open_string Try.underlying9 (hval 1 9 v1 rfl rfl) h1
  clear hA0 hval0
  refine (walk W a0 c0 l0 w0 m0 a1 w1 ).mono fun e W' ⟨he, bel⟩ => ?_
  subst he
  exact ⟨_, rfl, _, _, _, [], _, [], hW', trodAll_mk1 (shut_bool Try.underlying4 _), (trodAll_cons_mk (Below.trod laidOut (by kernel_rfl) (of_decide_eq_true (by kernel_rfl)) k0 bel lt0) (trodAll_cons_mk (shut_string Try.underlying9 w1) trodAll_mk0)), rfl, bel.frame _, fun h => by cases h⟩

theorem over : Rows.fnExactJoinStringsRow.holds Try.pinned (OpenSpec.ofChange Rows.fnExactJoinStringsSpec) :=
  OpenClaim.holds_of_wide 5 Try.f5 rfl rfl rfl rfl rfl rfl rfl ⟨rfl, rfl, rfl, rfl, rfl⟩ rfl rfl rfl rfl rfl (by kernel_rfl) Try.func5 (by kernel_rfl)
    (of_decide_eq_true (by kernel_rfl)) (by unfold Func.isWrapper; first | (rw [if_pos (by decide +kernel)]; kernel_rfl) | (rw [if_neg (by decide +kernel)]; exact ⟨rfl, rfl⟩))
    (fun os started H enc _ => lifted os started H enc)

/-- The statement. -/
theorem proved : Rows.FnExactJoinStringsSaid :=
  over
#print axioms proved
end Go.Proofs.Ytfjnfgeielgihaa.fnExactJoinStrings
