/- Proved here: called with any arguments, the law FnExactIsSeason returns true and the arguments read afterwards as they read before: impl.IsSeason answers as its model does, whether a Season is valid.
   Conditions: none but the statement's own (the arguments can be read as data). -/
import Derived.Test.YtnkigfopejbcpaaRows
import Derived.WalkKit
import Derived.ProofKit
import Derived.OpenShut
import Derived.ShutString
import Derived.Below
import Derived.ChangeOld
import Derived.HandedShaped
import Derived.Test.YtnkigfopejbcpaaOpen
import Derived.Test.YtnkigfopejbcpaaPairIsSeason
namespace Go.Proofs.Ytnkigfopejbcpaa.fnExactIsSeason
open Go.ChangeShapes Go.WideShapes Go.ChangeAt Go.RowKit
open Go.ChangeMaps (open_string shut_string)
set_option linter.unusedVariables false

theorem own : ownKnob Try.prog.godebug = none := by kernel_rfl
theorem laidOut : laidOutB Try.prog = true := by kernel_rfl
/- The walk of the law's body. -/
set_option maxRecDepth 100000 in
set_option maxHeartbeats 1500000 in
theorem walk (W : World) (F0 : Sea) (w0 : F0.At W)  :
    Calls Try.prog 3 #[F0.val] W fun e w' => e = .returned (.bool true) ∧ Below W.heap.size W w' := by
  have hB_0 := Below.refl W.heap.size W
  have A0_0 := Lib.hid w0.in
  clear w0
  show Calls _ _ #[.agg #[.slice F0.o.a F0.o.l.length F0.o.c, .slice F0.x.a F0.x.l.length F0.x.c, .slice F0.k.a F0.k.l.length F0.k.c, .slice F0.r.a F0.r.T.length F0.r.c]] _ _
  go_enter Try.func3, Try.ntmps3
  go_wp2_with fail
  obtain ⟨W1, hW⟩ : ∃ u, u = (W.alloc (Obj.cells #[.slice F0.o.a F0.o.l.length F0.o.c, .slice F0.x.a F0.x.l.length F0.x.c, .slice F0.k.a F0.k.l.length F0.k.c, .slice F0.r.a F0.r.T.length F0.r.c] 25)) := ⟨_, rfl⟩
  rw [show (W.alloc (Obj.cells #[.slice F0.o.a F0.o.l.length F0.o.c, .slice F0.x.a F0.x.l.length F0.x.c, .slice F0.k.a F0.k.l.length F0.k.c, .slice F0.r.a F0.r.T.length F0.r.c] 25)) = W1 from hW.symm]
  have hb : Below W.heap.size W W1 := by rw [hW]; exact below_alloc _ _
  have hbx : Box4 W1 W.heap.size (.slice F0.o.a F0.o.l.length F0.o.c) (.slice F0.x.a F0.x.l.length F0.x.c) (.slice F0.k.a F0.k.l.length F0.k.c) (.slice F0.r.a F0.r.T.length F0.r.c) 25 := by rw [hW]; exact Box4.made _ _ _ _ _ _ 
  have hsx : W1.heap.size = W.heap.size + 1 := by rw [hW]; exact size_alloc _ _
  clear hW
  have A0_1 := Lib.hid (A0_0.out.on hb)
  clear A0_0
  have hB_1 := hB_0.trans (hb.mono hB_0.size)
  have hz_1 := hb.size
  clear hB_0 hb
  have B0_1 := Lib.hid hbx
  clear hbx
  have hzx_1 := Nat.le_of_eq hsx
  have hzy_1 := Nat.le_of_eq hsx.symm
  clear hsx
  refine (show Calls _ _ _ _ _ from szSea_law F0 1048576 W1 A0_1.out.at (by omega) (by omega)).mono ?_
  rintro e W2 ⟨⟨left0, rfl, hl0, hm0⟩, hb⟩
  have A0_2 := Lib.hid (A0_1.out.on hb)
  have B0_2 := Lib.hid (B0_1.out.on hb)
  clear A0_1
  clear B0_1
  have hB_2 := hB_1.trans (hb.mono hB_1.size)
  have hz_2 := hb.size
  clear hB_1 hb
  by_cases hng0 : left0 < 0
  · go_wp2
    go_ret
    exact ⟨rfl, hB_2⟩
  have hs0 : F0.Small := by unfold Sea.Small; have := hl0 (by omega); omega
  have hle0 : left0 ≤ 1048576 := hm0
  obtain ⟨v, cs, ci⟩ := isSeason_pair F0 hs0
  have CS := Lib.hid cs
  have CI := Lib.hid ci
  clear cs ci
  have B0_c0 := B0_2.out.c0
  have B0_c1 := B0_2.out.c1
  have B0_c2 := B0_2.out.c2
  have B0_c3 := B0_2.out.c3
  go_wp2_with fail
  clear B0_c0 B0_c1 B0_c2 B0_c3
  refine (show Calls _ _ _ _ _ from toSea_law F0 W2 A0_2.out.at hs0).mono ?_
  rintro e W3 ⟨c0, rfl, hkc0, ho, hi, hb⟩
  have A0_3 := Lib.hid (A0_2.out.on hb)
  have B0_3 := Lib.hid (B0_2.out.on hb)
  clear A0_2
  clear B0_2
  have hB_3 := hB_2.trans (hb.mono hB_2.size)
  have hz_3 := hb.size
  clear hB_2 hb
  have Ic0_3 := Lib.hid hi
  have Oc0_3 := Lib.hid ho
  clear hi ho
  have B0_c0 := B0_3.out.c0
  have B0_c1 := B0_3.out.c1
  have B0_c2 := B0_3.out.c2
  have B0_c3 := B0_3.out.c3
  go_wp2_with fail
  clear B0_c0 B0_c1 B0_c2 B0_c3
  refine (show Calls _ _ _ _ _ from CS.out c0 W3 Ic0_3.out.at hkc0).mono ?_
  rintro e W4 ⟨rfl, hb⟩
  have A0_4 := Lib.hid (A0_3.out.on hb)
  have B0_4 := Lib.hid (B0_3.out.on hb)
  have Ic0_4 := Lib.hid (Ic0_3.out.on hb)
  have Oc0_4 := Lib.hid (Oc0_3.out.on hb)
  clear A0_3
  clear B0_3
  clear Ic0_3
  clear Oc0_3
  have hB_4 := hB_3.trans (hb.mono hB_3.size)
  have hz_4 := hb.size
  clear hB_3 hb
  clear Oc0_4
  clear Ic0_4
  have B0_c0 := B0_4.out.c0
  have B0_c1 := B0_4.out.c1
  have B0_c2 := B0_4.out.c2
  have B0_c3 := B0_4.out.c3
  go_wp2_with fail
  clear B0_c0 B0_c1 B0_c2 B0_c3
  refine (show Calls _ _ _ _ _ from toSea_law F0 W4 A0_4.out.at hs0).mono ?_
  rintro e W5 ⟨x0, rfl, hkx0, ho, hi, hb⟩
  have A0_5 := Lib.hid (A0_4.out.on hb)
  have B0_5 := Lib.hid (B0_4.out.on hb)
  clear A0_4
  clear B0_4
  have hB_5 := hB_4.trans (hb.mono hB_4.size)
  have hz_5 := hb.size
  clear hB_4 hb
  have Ix0_5 := Lib.hid hi
  have Ox0_5 := Lib.hid ho
  clear hi ho
  have B0_c0 := B0_5.out.c0
  have B0_c1 := B0_5.out.c1
  have B0_c2 := B0_5.out.c2
  have B0_c3 := B0_5.out.c3
  go_wp2_with fail
  clear B0_c0 B0_c1 B0_c2 B0_c3
  obtain ⟨W6, hW⟩ : ∃ u, u = boxed4 W5 (.slice x0.o.a x0.o.l.length x0.o.c) (.slice x0.x.a x0.x.l.length x0.x.c) (.slice x0.k.a x0.k.l.length x0.k.c) (.slice x0.r.a x0.r.T.length x0.r.c) := ⟨_, rfl⟩
  rw [show W5.alloc (Obj.cells #[.slice x0.o.a x0.o.l.length x0.o.c, .slice x0.x.a x0.x.l.length x0.x.c, .slice x0.k.a x0.k.l.length x0.k.c, .slice x0.r.a x0.r.T.length x0.r.c] 28) = W6 from hW.symm]
  have hb : Below W5.heap.size W5 W6 := by rw [hW]; exact boxed4_below _ _ _ _ _ 
  have hbx : Box4 W6 W5.heap.size (.slice x0.o.a x0.o.l.length x0.o.c) (.slice x0.x.a x0.x.l.length x0.x.c) (.slice x0.k.a x0.k.l.length x0.k.c) (.slice x0.r.a x0.r.T.length x0.r.c) 28 := by rw [hW]; exact boxed4_box _ _ _ _ _ 
  have hsx : W6.heap.size = W5.heap.size + 1 := by rw [hW]; exact boxed4_size _ _ _ _ _ 
  clear hW
  have A0_6 := Lib.hid (A0_5.out.on hb)
  have B0_6 := Lib.hid (B0_5.out.on hb)
  have Ix0_6 := Lib.hid (Ix0_5.out.on hb)
  have Ox0_6 := Lib.hid (Ox0_5.out.on hb)
  clear A0_5
  clear B0_5
  clear Ix0_5
  clear Ox0_5
  have hB_6 := hB_5.trans (hb.mono hB_5.size)
  have hz_6 := hb.size
  clear hB_5 hb
  have Bx0_6 := Lib.hid hbx
  clear hbx
  have hzx_6 := Nat.le_of_eq hsx
  have hzy_6 := Nat.le_of_eq hsx.symm
  clear hsx
  refine (show Calls _ _ _ _ _ from CI.out x0 W6 Ix0_6.out.at hkx0).mono ?_
  rintro e W7 ⟨rfl, hb⟩
  have A0_7 := Lib.hid (A0_6.out.on hb)
  have B0_7 := Lib.hid (B0_6.out.on hb)
  have Ix0_7 := Lib.hid (Ix0_6.out.on hb)
  have Ox0_7 := Lib.hid (Ox0_6.out.on hb)
  have Bx0_7 := Lib.hid (Bx0_6.out.on hb)
  clear A0_6
  clear B0_6
  clear Ix0_6
  clear Ox0_6
  clear Bx0_6
  have hB_7 := hB_6.trans (hb.mono hB_6.size)
  have hz_7 := hb.size
  clear hB_6 hb
  have B0_c0 := B0_7.out.c0
  have B0_c1 := B0_7.out.c1
  have B0_c2 := B0_7.out.c2
  have B0_c3 := B0_7.out.c3
  have Bx0_c0 := Bx0_7.out.c0
  have Bx0_c1 := Bx0_7.out.c1
  have Bx0_c2 := Bx0_7.out.c2
  have Bx0_c3 := Bx0_7.out.c3
  go_wp2_with fail
  clear B0_c0 B0_c1 B0_c2 B0_c3
  clear Bx0_c0 Bx0_c1 Bx0_c2 Bx0_c3
  have HS : Hid (∀ u, Below W7.heap.size W7 u → ((u.cell? ⟨W.heap.size, 0, none⟩ = some (.slice F0.o.a F0.o.l.length F0.o.c) ∧ u.cell? ⟨W.heap.size, 1, none⟩ = some (.slice F0.x.a F0.x.l.length F0.x.c) ∧ u.cell? ⟨W.heap.size, 2, none⟩ = some (.slice F0.k.a F0.k.l.length F0.k.c) ∧ u.cell? ⟨W.heap.size, 3, none⟩ = some (.slice F0.r.a F0.r.T.length F0.r.c) ∧ u.cell? ⟨W5.heap.size, 0, none⟩ = some (.slice x0.o.a x0.o.l.length x0.o.c) ∧ u.cell? ⟨W5.heap.size, 1, none⟩ = some (.slice x0.x.a x0.x.l.length x0.x.c) ∧ u.cell? ⟨W5.heap.size, 2, none⟩ = some (.slice x0.k.a x0.k.l.length x0.k.c) ∧ u.cell? ⟨W5.heap.size, 3, none⟩ = some (.slice x0.r.a x0.r.T.length x0.r.c)) ∧ Below W7.heap.size W7 u)) := Lib.hid fun u hu => box4_cells B0_7.out Bx0_7.out u hu
  have s0 := HS.out W7.drew (Below.refl _ _).drew
  have ct := Lib.hid fun u (hu : Below W7.heap.size W7 u) => toSea_law F0 u (A0_7.out.on hu).at hs0
  have ce := Lib.hid fun u (hu : Below W7.heap.size W7 u) (y : Sea) (hy : y.At u) (hky : y.Like F0) => eqSea_same x0 y u (Ix0_7.out.on hu).at hy (hkx0.trans hky.symm) (hs0.like hkx0.symm)
  go_region_held3 (fun u => ((u.cell? ⟨W.heap.size, 0, none⟩ = some (.slice F0.o.a F0.o.l.length F0.o.c) ∧ u.cell? ⟨W.heap.size, 1, none⟩ = some (.slice F0.x.a F0.x.l.length F0.x.c) ∧ u.cell? ⟨W.heap.size, 2, none⟩ = some (.slice F0.k.a F0.k.l.length F0.k.c) ∧ u.cell? ⟨W.heap.size, 3, none⟩ = some (.slice F0.r.a F0.r.T.length F0.r.c) ∧ u.cell? ⟨W5.heap.size, 0, none⟩ = some (.slice x0.o.a x0.o.l.length x0.o.c) ∧ u.cell? ⟨W5.heap.size, 1, none⟩ = some (.slice x0.x.a x0.x.l.length x0.x.c) ∧ u.cell? ⟨W5.heap.size, 2, none⟩ = some (.slice x0.k.a x0.k.l.length x0.k.c) ∧ u.cell? ⟨W5.heap.size, 3, none⟩ = some (.slice x0.r.a x0.r.T.length x0.r.c)) ∧ Below W7.heap.size W7 u)) (first | exact s0 | exact keep_reg HS.out (by first | assumption | exact And.right (by assumption)) hb1) (first | (go_at_call 10; refine (show Calls _ _ _ _ _ from ct.out _ (by first | assumption | exact And.right (by assumption))).mono ?_; rintro e u1 ⟨y, rfl, hky, _, hy, hb1⟩) | (go_at_call 12; refine (show Calls _ _ _ _ _ from ce.out _ (by first | assumption | exact And.right (by assumption)) y hy.at hky).mono ?_; rintro e u2 ⟨rfl, hb1⟩))
  refine at_exit (W := W7) (by first | assumption | exact And.right (by assumption)) ?_
  intro W8 hb
  clear HS s0 ct ce
  have A0_8 := Lib.hid (A0_7.out.on hb)
  have B0_8 := Lib.hid (B0_7.out.on hb)
  have Ix0_8 := Lib.hid (Ix0_7.out.on hb)
  have Ox0_8 := Lib.hid (Ox0_7.out.on hb)
  have Bx0_8 := Lib.hid (Bx0_7.out.on hb)
  clear A0_7
  clear B0_7
  clear Ix0_7
  clear Ox0_7
  clear Bx0_7
  have hB_8 := hB_7.trans (hb.mono hB_7.size)
  have hz_8 := hb.size
  clear hB_7 hb
  have B0_c0 := B0_8.out.c0
  have B0_c1 := B0_8.out.c1
  have B0_c2 := B0_8.out.c2
  have B0_c3 := B0_8.out.c3
  have Bx0_c0 := Bx0_8.out.c0
  have Bx0_c1 := Bx0_8.out.c1
  have Bx0_c2 := Bx0_8.out.c2
  have Bx0_c3 := Bx0_8.out.c3
  go_wp2_with fail
  clear B0_c0 B0_c1 B0_c2 B0_c3
  clear Bx0_c0 Bx0_c1 Bx0_c2 Bx0_c3
  go_ret
  exact ⟨rfl, hB_8⟩

/- The row's step. -/
set_option maxRecDepth 100000 in
set_option maxHeartbeats 4000000 in
theorem lifted (os : Os) (started : os.Started) (H : Type) (enc : TypeId × Value → H) :
    ReturnsInHanded {} Try.checked os 3 .any (Rows.fnExactIsSeasonSpec.pre6 enc Try.prog Try.f3 Rows.fnExactIsSeasonRow.domain false) (Rows.fnExactIsSeasonSpec.post enc Try.prog Try.f3 false true false false) := by
  refine returnsInHanded_of_change_shaped (C := Try.checked) own started (by kernel_rfl) Try.func3
    (ChangeSpec.witness6 (enc := enc) (C := Try.checked) false ⟨#[], #[.agg #[.slice none 0 0, .slice none 0 0, .slice none 0 0, .slice none 0 0]], []⟩ 8 (by kernel_rfl) (by kernel_rfl) (by kernel_rfl) (by kernel_rfl)) ?_
  intro W base args ds gs before hval0 hW hcnd hsz0 hShape _
  have hval : ∀ (j : Nat) t v, Try.f3.params[j]? = some t → args[j]? = some v → Value.okWide Try.prog W .any base t v := hval0
  have hW' := hW
  obtain ⟨p, q, hA0, hV, rfl, hfz, hnd⟩ := hW
  have hA : DataW.TrodAll enc Try.prog W 0 (fun _ => true) true Try.f3.params.toList args.toList ds p := hA0
  rw [Try.params3] at hA hval
  obtain ⟨v0, vs0, d0, ds0, p0, q0, hargs, rfl, rfl, h0, more0⟩ := trodAll_cons hA
  obtain ⟨rfl, rfl, rfl⟩ := trodAll_nil more0
  obtain rfl : args = #[v0] := by cases args; simp_all
  obtain ⟨rfl, rfl⟩ := trodVars_none hV
  have k0 := h0
  have lt0 : ∀ x ∈ p0, x.block < W.heap.size := by obtain ⟨m, hm⟩ := k0; exact DataW.trod_lt m _ _ _ hm
  obtain ⟨F0, rfl, w0⟩ := open_sea (P := Try.prog) (W := W) Try.underlying25 (by kernel_rfl) (by kernel_rfl) rfl rfl rfl rfl Try.underlying22 Try.underlying22 Try.underlying22 Try.underlying3 (by kernel_rfl) Try.underlying23 Try.underlying32 (by kernel_rfl) Try.underlying22 (by kernel_rfl) (hval 0 25 v0 rfl rfl) h0
  clear hA0 hval0
  refine (walk W F0 w0 ).mono fun e W' ⟨he, bel⟩ => ?_
  subst he
  exact ⟨_, rfl, _, _, _, [], _, [], hW', trodAll_mk1 (shut_bool Try.underlying4 _), (trodAll_cons_mk (Below.trod laidOut (by kernel_rfl) (of_decide_eq_true (by kernel_rfl)) k0 bel lt0) trodAll_mk0), rfl, bel.frame _, fun h => by cases h⟩

theorem over : Rows.fnExactIsSeasonRow.holds Try.pinned (OpenSpec.ofChange Rows.fnExactIsSeasonSpec) :=
  OpenClaim.holds_of_wide 3 Try.f3 rfl rfl rfl rfl rfl rfl rfl ⟨rfl, rfl, rfl, rfl, rfl⟩ rfl rfl rfl rfl rfl (by kernel_rfl) Try.func3 (by kernel_rfl)
    (of_decide_eq_true (by kernel_rfl)) (by unfold Func.isWrapper; first | (rw [if_pos (by decide +kernel)]; kernel_rfl) | (rw [if_neg (by decide +kernel)]; exact ⟨rfl, rfl⟩))
    (fun os started H enc _ => lifted os started H enc)

/-- The statement. -/
theorem proved : Rows.FnExactIsSeasonSaid :=
  over
#print axioms proved
end Go.Proofs.Ytnkigfopejbcpaa.fnExactIsSeason
