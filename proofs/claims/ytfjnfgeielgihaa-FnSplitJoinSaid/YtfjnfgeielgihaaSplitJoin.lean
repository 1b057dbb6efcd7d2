/- Proved here: called with any slice of bytes, the law FnSplitJoin returns true and the slice reads afterwards as it read before: SplitString and JoinStrings are inverse, JoinStrings and LessString answer as their models do, and LessString is a strict order, at the arguments that are drawn.
   Conditions: none but the statement's own (the argument can be read as data). -/
import Derived.Test.YtfjnfgeielgihaaRows
import Derived.WalkKit
import Derived.ProofKit
import Derived.OpenShut
import Derived.ShutString
import Derived.Below
import Derived.ChangeOld
import Derived.HandedShaped
import Derived.Test.YtfjnfgeielgihaaSplitImpl
import Derived.Test.YtfjnfgeielgihaaMark
import Derived.Test.YtfjnfgeielgihaaJoin
import Derived.Test.YtfjnfgeielgihaaDrawJoin
import Derived.Test.YtfjnfgeielgihaaPlainInv
import Derived.Test.YtfjnfgeielgihaaPlainFirst
import Derived.WalkLawsBesides
namespace Go.Proofs.Ytfjnfgeielgihaa.fnSplitJoin
open Go.ChangeShapes Go.WideShapes Go.ChangeAt Go.RowKit
open Go.ChangeMaps (open_string shut_string)
set_option linter.unusedVariables false

theorem own : ownKnob Try.prog.godebug = none := by kernel_rfl
theorem laidOut : laidOutB Try.prog = true := by kernel_rfl
/- The walk of the law's body. -/
set_option maxHeartbeats 1600000 in
theorem walk (W : World) (a0 : Option Addr) (n0 c0 : Nat) (w0 : CodeAt W W.heap.size a0 n0) (m0 : n0 ≤ maxLen)  :
    Calls Try.prog 3 #[.slice a0 n0 c0] W fun e w' => e = .returned (.bool true) ∧ Below W.heap.size W w' := by
  have W0 := Lib.hid w0
  unfold maxLen at m0
  have mi : (n0 : Int) ≤ 9223372036854775807 := by omega
  clear w0
  by_cases hbig : 65536 < n0
  · have hbi : (65536 : Int) < (n0 : Int) := by omega
    have cb : ∀ W', Calls Try.prog 8 #[.slice a0 n0 c0] W' fun e w' => e = .returned (.bool true) ∧ w' = W' := fun W' => by
      go_enter Try.func8, Try.ntmps8
      go_wp2
      go_ret
      exact ⟨rfl, rfl⟩
    go_enter Try.func3, Try.ntmps3
    go_wp2_with fail
    refine (cb _).mono ?_
    rintro e w' ⟨rfl, rfl⟩
    go_wp2_with fail
    go_ret
    exact ⟨rfl, Below.refl _ _⟩
  have hbi : ¬ (65536 : Int) < (n0 : Int) := by omega
  have hn : n0 ≤ 65536 := by omega
  have cb : ∀ W', Calls Try.prog 8 #[.slice a0 n0 c0] W' fun e w' => e = .returned (.bool false) ∧ w' = W' := fun W' => by
    go_enter Try.func8, Try.ntmps8
    go_wp2
    go_ret
    exact ⟨rfl, rfl⟩
  clear hbig mi m0
  go_enter Try.func3, Try.ntmps3
  go_wp2_with fail
  refine (cb _).mono ?_
  rintro e w' ⟨rfl, rfl⟩
  clear cb hbi
  go_wp2_with fail
  refine (drawSplit_any _ _ _ _ W0.out hn).mono ?_
  rintro e w1 ⟨s, sep, hs, hsep, rfl, hb1⟩
  have HB1 := Lib.hid hb1
  clear hb1
  -- SplitString
  obtain ⟨l, b, hl, hlb, ci⟩ : ∃ (l : List ByteArray) (b : Bool), l.length + sumSz l ≤ 1048576 ∧ ((sep.size = 1 ∧ b = true ∧ joinF l sep = (s, true)) ∨ (sep.size ≠ 1 ∧ b = false ∧ l = [])) ∧
      (∀ W, Calls Try.prog 10 #[.string s, .string sep] W fun e w' => ∃ v, e = .returned (.tuple #[v, .bool b]) ∧ w'.ownsRow W.heap.size 9 1 v l.length (sv l) ∧ Below W.heap.size W w') := by
    by_cases hz : sep.size = 1
    · have hj := join_parts s sep hz (by omega)
      refine ⟨parts s (sep[0]'(by omega)), true, ?_, .inl ⟨hz, rfl, hj⟩, fun W => implSplit_yes s sep W (by omega) hz⟩
      have hlen := parts_len s (sep[0]'(by omega))
      have hok : JoinOk (parts s (sep[0]'(by omega))) sep := by
        by_cases h : JoinOk (parts s (sep[0]'(by omega))) sep
        · exact h
        · rw [joinF_bad h] at hj; simp at hj
      have hjs := join_size (sep := sep) (l := parts s (sep[0]'(by omega))) hz _ (Nat.le_refl _)
      rw [sumSz_all] at hjs
      have h4 := hok.2.2.2
      omega
    · exact ⟨[], false, by simp [sumSz], .inr ⟨hz, rfl, rfl⟩, fun W => implSplit_no s sep W (by omega) (by omega)⟩
  go_wp2_with fail
  refine (ci _).mono ?_
  rintro e w2 ⟨v, rfl, ho2, hb2⟩
  obtain ⟨p2, c2, rfl, hR2, _⟩ := own_shape ho2
  have HR2 := Lib.hid hR2
  have HB2 := Lib.hid (HB1.out.trans (hb2.mono HB1.out.size))
  clear ho2 hR2 hb2 ci HB1
  -- the drawn list
  have HC2 := Lib.hid ((W0.out.on HB2.out).up HB2.out.size)
  go_wp2_with fail
  refine (drawJoin_any _ _ _ _ HC2.out hn).mono ?_
  rintro e w3 ⟨v3, k, mark, hk1, hk2, hmk, rfl, ho3, hb3⟩
  obtain ⟨p3, c3, rfl, hR3, _⟩ := own_shape ho3
  have HR3 := Lib.hid hR3
  have HR23 := Lib.hid (HR2.out.on hb3)
  have HB3 := Lib.hid (HB2.out.trans (hb3.mono HB2.out.size))
  have hkk : k.length + sumSz k ≤ 1048576 := by unfold sumSz; omega
  clear ho3 hR3 hb3 HR2 HB2 HC2
  obtain ⟨r, hr⟩ : ∃ r, r = joinF k mark := ⟨_, rfl⟩
  obtain ⟨jt, jb⟩ := r
  have c1 := fun W h => specJoin_any p3 c3 k mark W h hkk
  have c2' := fun W h => implJoin_any p3 c3 k mark W h hkk
  rw [← hr] at c1 c2'
  simp only [] at c1 c2'
  clear hr
  go_wp2_with fail
  refine (c2' _ HR3.out).mono ?_
  rintro e w4 ⟨rfl, hb4⟩
  have HR4 := Lib.hid (HR3.out.on hb4)
  have HR24 := Lib.hid (HR23.out.on hb4)
  have HB4 := Lib.hid (HB3.out.trans (hb4.mono HB3.out.size))
  clear hb4 HR3 HR23 HB3 c2'
  go_wp2_with fail
  refine (c1 _ HR4.out).mono ?_
  rintro e w5 ⟨rfl, hb5⟩
  have HR25 := Lib.hid (HR24.out.on hb5)
  have HB5 := Lib.hid (HB4.out.trans (hb5.mono HB4.out.size))
  clear hb5 HR4 HR24 HB4 c1
  have HC5 := Lib.hid ((W0.out.on HB5.out).up HB5.out.size)
  go_wp2_with fail
  refine (drawLess_any _ _ _ _ HC5.out hn).mono ?_
  rintro e w6 ⟨x, y, hx, hy, rfl, hb6⟩
  have HR26 := Lib.hid (HR25.out.on hb6)
  have HB6 := Lib.hid (HB5.out.trans (hb6.mono HB5.out.size))
  clear hb6 HR25 HB5 HC5 W0
  -- LessString
  obtain ⟨q1, hq1⟩ : ∃ q : Bool, q = Op.bytesLess x.toList y.toList := ⟨_, rfl⟩
  obtain ⟨q2, hq2⟩ : ∃ q : Bool, q = Op.bytesLess y.toList x.toList := ⟨_, rfl⟩
  have hstrict : q1 = true → q2 = false := fun h => by rw [hq2]; exact less_strict _ _ (by rw [← hq1]; exact h)
  have k1 : ∀ W, Calls Try.prog 15 #[.string x, .string y] W fun e w' => e = .returned (.bool q1) ∧ w' = W := fun W => by
    rw [hq1]
    go_enter Try.func15, Try.ntmps15
    go_wp2
    go_ret
    exact ⟨rfl, rfl⟩
  have k2 : ∀ W, Calls Try.prog 16 #[.string x, .string y] W fun e w' => e = .returned (.bool q1) ∧ w' = W := fun W => by
    rw [hq1]
    go_enter Try.func16, Try.ntmps16
    go_wp2
    go_ret
    exact ⟨rfl, rfl⟩
  have k3 : ∀ W, Calls Try.prog 15 #[.string y, .string x] W fun e w' => e = .returned (.bool q2) ∧ w' = W := fun W => by
    rw [hq2]
    go_enter Try.func15, Try.ntmps15
    go_wp2
    go_ret
    exact ⟨rfl, rfl⟩
  clear hq1 hq2
  have fin : ∀ (K : Act → World → Prop), True := fun _ => trivial
  clear fin
  have cj := fun W h => implJoin_any p2 c2 l sep W h hl
  rcases hlb with ⟨hz, rfl, hj⟩ | ⟨hz, rfl, rfl⟩
  · rw [hj] at cj
    simp only [] at cj
    have z1 : ((sep.size : Int) == 1) = true := by simp; omega
    have z2 : ((sep.size : Int) != 1) = false := by simp; omega
    clear hj hz
    cases q1
    · have k1' : ∀ W, Calls Try.prog 15 #[.string x, .string y] W fun e w' => e = .returned (.bool false) ∧ w' = W := k1
      clear k1 k3 hstrict
      go_wp2_with (first | (go_at_call 15; refine (k1' _).mono ?_; rintro e w' ⟨rfl, rfl⟩) | (go_at_call 16; refine (k2 _).mono ?_; rintro e w' ⟨rfl, rfl⟩) | fail)
      refine (cj _ HR26.out).mono ?_
      rintro e w7 ⟨rfl, hb7⟩
      have HB7 := Lib.hid (HB6.out.trans (hb7.mono HB6.out.size))
      clear hb7
      go_wp2_with fail
      go_ret
      exact ⟨rfl, HB7.out⟩
    · obtain rfl : q2 = false := hstrict rfl
      clear hstrict
      go_wp2_with fail
      refine (k1 _).mono ?_
      rintro e w' ⟨rfl, rfl⟩
      go_wp2_with fail
      refine (k2 _).mono ?_
      rintro e w' ⟨rfl, rfl⟩
      go_wp2_with fail
      refine (k1 _).mono ?_
      rintro e w' ⟨rfl, rfl⟩
      go_wp2_with fail
      refine (k3 _).mono ?_
      rintro e w' ⟨rfl, rfl⟩
      go_wp2_with fail
      refine (cj _ HR26.out).mono ?_
      rintro e w7 ⟨rfl, hb7⟩
      have HB7 := Lib.hid (HB6.out.trans (hb7.mono HB6.out.size))
      clear hb7
      go_wp2_with fail
      go_ret
      exact ⟨rfl, HB7.out⟩
  · have z1 : ((sep.size : Int) == 1) = false := by simp; omega
    have z2 : ((sep.size : Int) != 1) = true := by simp; omega
    clear hz cj
    cases q1
    · have k1' : ∀ W, Calls Try.prog 15 #[.string x, .string y] W fun e w' => e = .returned (.bool false) ∧ w' = W := k1
      clear k1 k3 hstrict
      go_wp2_with (first | (go_at_call 15; refine (k1' _).mono ?_; rintro e w' ⟨rfl, rfl⟩) | (go_at_call 16; refine (k2 _).mono ?_; rintro e w' ⟨rfl, rfl⟩) | fail)
      go_ret
      exact ⟨rfl, HB6.out⟩
    · obtain rfl : q2 = false := hstrict rfl
      clear hstrict
      go_wp2_with fail
      refine (k1 _).mono ?_
      rintro e w' ⟨rfl, rfl⟩
      go_wp2_with fail
      refine (k2 _).mono ?_
      rintro e w' ⟨rfl, rfl⟩
      go_wp2_with fail
      refine (k1 _).mono ?_
      rintro e w' ⟨rfl, rfl⟩
      go_wp2_with fail
      refine (k3 _).mono ?_
      rintro e w' ⟨rfl, rfl⟩
      go_wp2_with fail
      go_ret
      exact ⟨rfl, HB6.out⟩

/- The row's step. -/
set_option maxRecDepth 100000 in
theorem lifted (os : Os) (started : os.Started) (H : Type) (enc : TypeId × Value → H) :
    ReturnsInHanded {} Try.checked os 3 .any (Rows.fnSplitJoinSpec.pre6 enc Try.prog Try.f3 Rows.fnSplitJoinRow.domain false) (Rows.fnSplitJoinSpec.post enc Try.prog Try.f3 false true false false) := by
  refine returnsInHanded_of_change_shaped (C := Try.checked) own started (by kernel_rfl) Try.func3
    (ChangeSpec.witness6 (enc := enc) (C := Try.checked) false ⟨#[], #[.slice none 0 0], []⟩ 8 (by kernel_rfl) (by kernel_rfl) (by kernel_rfl) (by kernel_rfl)) ?_
  intro W base args ds gs before hval0 hW hcnd hsz0 hShape _
  have hval : ∀ (j : Nat) t v, Try.f3.params[j]? = some t → args[j]? = some v → Value.okWide Try.prog W .any base t v := hval0
  have hW' := hW
  obtain ⟨p, q, hA0, hV, rfl, hfz, hnd⟩ := hW
  have hA : DataW.TrodAll enc Try.prog W 0 (fun _ => true) true Try.f3.params.toList args.toList ds p := hA0
  rw [Try.params3] at hA hval
  obtain ⟨v0, vs0, d0, ds0, p0, q0, hargs, rfl, rfl, h0, r0⟩ := trodAll_cons hA
  obtain ⟨rfl, rfl, rfl⟩ := trodAll_nil r0
  obtain rfl : args = #[v0] := by cases args; simp_all
  obtain ⟨rfl, rfl⟩ := trodVars_none hV
  obtain ⟨a0, n0, c0, rfl⟩ := okWide_slice Try.underlying22 (hval 0 22 v0 rfl rfl)
  have k0 := h0
  have lt0 : ∀ x ∈ p0, x.block < W.heap.size := by obtain ⟨m, hm⟩ := k0; exact DataW.trod_lt m _ _ _ hm
  obtain ⟨w0, m0⟩ : CodeAt W W.heap.size a0 n0 ∧ n0 ≤ maxLen := by
    obtain ⟨fuel, hf⟩ := h0
    rcases open_ints Try.underlying22 Try.underlying5 (by kernel_rfl) hf with ⟨hcs, _⟩ | ⟨x, len', cap', zs, hcs, _, hl, hm, hz, _, hcell, hwz⟩
    · simp [Value.cells] at hcs
      obtain ⟨rfl, rfl, rfl⟩ := hcs
      exact ⟨⟨[], rfl, by simp, .inl rfl⟩, by decide⟩
    · simp [Value.cells] at hcs
      obtain ⟨rfl, rfl, rfl⟩ := hcs
      have hle : n0 ≤ zs.length := by split at hz <;> omega
      refine ⟨⟨zs.take n0, by rw [List.length_take]; omega, fun y hy => by have := bounds_u8 (hwz y (List.mem_of_mem_take hy)); omega, ?_⟩, by omega⟩
      by_cases h0 : n0 = 0
      · exact .inl h0
      · obtain ⟨b, off, spot⟩ := x
        have hc0 := hcell 0 (by omega)
        have hspot : spot = none := by simpa [Addr.add] using World.cell?_spot hc0
        subst hspot
        refine .inr ⟨b, off, rfl, by simpa [Addr.add] using World.block_lt_of_cell? W _ hc0, fun j y hj => ?_⟩
        obtain ⟨hj1, hj2⟩ := List.getElem?_eq_some_iff.1 hj
        rw [List.length_take] at hj1
        have := hcell j (by omega)
        rw [← hj2]
        rw [Addr.add_lit] at this
        simpa [List.getD_eq_getElem?_getD, show j < zs.length by omega] using this
  clear hA0 hval0
  refine (walk W a0 n0 c0 w0 m0 ).mono fun e W' ⟨he, bel⟩ => ?_
  subst he
  exact ⟨_, rfl, _, _, _, [], _, [], hW', trodAll_mk1 (shut_bool Try.underlying4 _), (trodAll_cons_mk (Below.trod laidOut (by kernel_rfl) (of_decide_eq_true (by kernel_rfl)) k0 bel lt0) trodAll_mk0), rfl, bel.frame _, fun h => by cases h⟩

theorem over : Rows.fnSplitJoinRow.holds Try.pinned (OpenSpec.ofChange Rows.fnSplitJoinSpec) :=
  OpenClaim.holds_of_wide 3 Try.f3 rfl rfl rfl rfl rfl rfl rfl ⟨rfl, rfl, rfl, rfl, rfl⟩ rfl rfl rfl rfl rfl (by kernel_rfl) Try.func3 (by kernel_rfl)
    (of_decide_eq_true (by kernel_rfl)) (by unfold Func.isWrapper; first | (rw [if_pos (by decide +kernel)]; kernel_rfl) | (rw [if_neg (by decide +kernel)]; exact ⟨rfl, rfl⟩))
    (fun os started H enc _ => lifted os started H enc)

/-- The statement. -/
theorem proved : Rows.FnSplitJoinSaid :=
  over
#print axioms proved
end Go.Proofs.Ytfjnfgeielgihaa.fnSplitJoin
