/- The contracts of SwapGain, on both sides. Condition: the Field and the set read as such. -/
import Derived.Test.YtfmodibahpgkmaaPlainGain
import Derived.IntWalk
namespace Go.Proofs.Ytfmodibahpgkmaa
open Go.RowKit

theorem l2Serve_serv (F : Fld) (t : Row) (u : World) (hF : F.At u) (ht : t.At u) (h2 : twoB F t = true) (l : List Int) (htl : t.l = l) (x : Int) (hx : x = serv F l) :
    Calls Try.prog 51 #[F.val, .slice t.a t.l.length t.c] u fun e w' => e = .returned (.int .i64 x) ∧ Below u.heap.size u w' := by
  subst hx; subst htl
  exact l2Serve_any F t _ u hF ht (fine_two h2)
theorem serviceFor_serv (F : Fld) (t : Row) (u : World) (hF : F.At u) (ht : t.At u) (h2 : twoB F t = true) (l : List Int) (htl : t.l = l) (x : Int) (hx : x = serv F l) :
    Calls Try.prog 54 #[F.val, .slice t.a t.l.length t.c] u fun e w' => e = .returned (.int .i64 x) ∧ Below u.heap.size u w' := by
  subst hx; subst htl
  exact serviceFor_any F t _ u hF ht (fine_two h2)

set_option maxHeartbeats 1000000 in
theorem l4Swap_any (s : Row) (o n : Int) (w : World) (hs : s.At w) (hsm : s.l.length ≤ 1048576) (hno : hasI s.l n = false) :
    Calls Try.prog 73 #[.slice s.a s.l.length s.c, .int .i64 o, .int .i64 n] w fun e w' => ∃ t : Row, e = .returned (.slice t.a t.l.length t.c) ∧ t.l = swapd s.l o n ∧ t.Own 3 w' ∧ t.In w.heap.size w'.heap.size w' ∧ Below w.heap.size w w' := by
  have C4 := Lib.hid (l2WithoutO_any s o w hs hsm)
  have HNO := Lib.hid (without_has (o := o) hno)
  have HL := Lib.hid (show (without s.l o).length ≤ 1048576 by have := without_len s.l o; omega)
  clear hs hno
  go_enter Try.func73, Try.ntmps73
  go_wp2_with fail
  refine C4.out.mono ?_
  rintro e W2 ⟨g, c, rfl, hown, hb2⟩
  have CP := Lib.hid (l1Put_any g c (without s.l o) n W2 (owns_base hown) HL.out HNO.out)
  have hsz2 := hb2.size
  clear hown
  go_wp2_with fail
  refine CP.out.mono ?_
  rintro e W3 ⟨t, rfl, htl, hto, hti, hb3⟩
  have HTL := Lib.hid htl
  clear htl
  go_wp2
  go_ret
  exact ⟨t, rfl, HTL.out, hto, hti.wide hsz2 (Nat.le_refl _), hb2.trans (hb3.mono hsz2)⟩

set_option maxRecDepth 16000 in
set_option maxHeartbeats 2000000 in
theorem l4Gain_any (F : Fld) (s : Row) (o n : Int) (w : World) (hF : F.At w) (hs : s.At w) (hsm : s.l.length ≤ 1048576) (h : SwapAt F s o n) :
    Calls Try.prog 69 #[F.val, .slice s.a s.l.length s.c, .int .i64 o, .int .i64 n] w fun e w' => e = .returned (.int .i64 (gain F s.l o n)) ∧ Below w.heap.size w w' := by
  obtain ⟨wA, hA, hbA, bx, hFA, hszA⟩ := laid_fld F w 29 hF
  have HSA := Lib.hid (hs.on hbA)
  have HFA := Lib.hid hFA
  have HBX := Lib.hid bx
  have HA := Lib.hid hA
  have hg := (twoB_iff.1 h.two).1
  have b1 := serv_bounds hg s.l
  have b2 := serv_bounds hg (swapd s.l o n)
  obtain ⟨x, hx⟩ : ∃ x, x = serv F s.l := ⟨_, rfl⟩
  obtain ⟨y, hy⟩ : ∃ y, y = serv F (swapd s.l o n) := ⟨_, rfl⟩
  have C1 := Lib.hid (fun u (hu : Below wA.heap.size wA u) => l2Serve_serv F s u (HFA.out.on hu) (HSA.out.on hu) h.two s.l rfl x hx)
  have C2 := Lib.hid (fun u (hu : Below wA.heap.size wA u) (t : Row) (ht : t.At u) (htl : t.l = swapd s.l o n) => l2Serve_serv F t u (HFA.out.on hu) ht (swapd_two h htl) (swapd s.l o n) htl y hy)
  have C3 := Lib.hid (fun u (hu : Below wA.heap.size wA u) => l4Swap_any s o n u (HSA.out.on hu) hsm h.no)
  have HG : Hid (gain F s.l o n = x - y) := Lib.hid (by unfold gain; rw [hx, hy])
  rw [← hx] at b1
  rw [← hy] at b2
  have e1 : -9223372036854775808 ≤ x - y := by omega
  have e2 : x - y ≤ 9223372036854775807 := by omega
  have HS : Hid (∀ u, Below wA.heap.size wA u → ((u.cell? ⟨w.heap.size, 0, none⟩ = some F.o.val ∧ u.cell? ⟨w.heap.size, 1, none⟩ = some F.t.val) ∧ Below wA.heap.size wA u)) := Lib.hid fun u hu => ⟨⟨(HBX.out.on hu).c0, (HBX.out.on hu).c1⟩, hu⟩
  have s0 := HS.out wA.drew (Below.refl _ _).drew
  clear hF hs hA hFA bx hx hy h hg
  show Calls _ _ #[.agg #[F.o.val, F.t.val], _, _, _] w _
  go_enter Try.func69, Try.ntmps69
  go_wp2_with fail
  rw [show w.alloc (Obj.cells #[F.o.val, F.t.val] 29) = wA from HA.out.symm]
  go_region_held3 (fun u => ((u.cell? ⟨w.heap.size, 0, none⟩ = some F.o.val ∧ u.cell? ⟨w.heap.size, 1, none⟩ = some F.t.val) ∧ Below wA.heap.size wA u)) (first | exact s0 | exact keep_reg HS.out (by first | assumption | exact And.right (by assumption)) hb1) (first | (go_at_call 73; refine (show Calls _ _ _ _ _ from C3.out _ (by first | assumption | exact And.right (by assumption))).mono ?_; rintro e u1 ⟨t, rfl, htl, -, hti, hb1⟩; have HTL := Lib.hid htl; clear htl) | (go_at_call 51; (fail_if_success clear HTL); refine (show Calls _ _ _ _ _ from C1.out _ (by first | assumption | exact And.right (by assumption))).mono ?_; rintro e u1 ⟨rfl, hb1⟩) | (go_at_call 51; refine (show Calls _ _ _ _ _ from C2.out _ (by first | assumption | exact And.right (by assumption)) t hti.at HTL.out).mono ?_; rintro e u2 ⟨rfl, hb1⟩))
  refine at_exit (W := wA) (by first | assumption | exact And.right (by assumption)) ?_
  intro W8 hb8
  have hw : IntKind.i64.wrap (x - y) = x - y := IntWalk.i64_in _ (by omega)
  go_wp2
  go_ret
  exact ⟨by rw [HG.out]; exact congrArg (fun z => Ending.returned (.int .i64 z)) hw, hbA.trans (hb8.mono hbA.size)⟩

set_option maxRecDepth 16000 in
set_option maxHeartbeats 2000000 in
theorem implGain_any (F : Fld) (s : Row) (o n : Int) (w : World) (hF : F.At w) (hs : s.At w) (hsm : s.l.length ≤ 1048576) (v : Int) (b : Bool) (hv : Gains F s o n v b) :
    Calls Try.prog 29 #[F.val, .slice s.a s.l.length s.c, .int .i64 o, .int .i64 n] w (PInt v b w) := by
  obtain ⟨wA, hA, hbA, bx, hFA, hszA⟩ := laid_fld F w 29 hF
  have HSA := Lib.hid (hs.on hbA)
  have HFA := Lib.hid hFA
  have HBX := Lib.hid bx
  have HA := Lib.hid hA
  clear hF hs hA hFA bx
  show Calls _ _ #[.agg #[F.o.val, F.t.val], _, _, _] w fun e w' => e = .returned (.tuple #[.int .i64 v, .bool b]) ∧ Below w.heap.size w w'
  rcases hv with ⟨h, hv, rfl⟩ | ⟨h, rfl, rfl⟩
  · have CT := Lib.hid (implSwap_any F s o n wA HFA.out HSA.out hsm _ _ h.swaps)
    have hg := (twoB_iff.1 h.two).1
    have b1 := serv_bounds hg s.l
    have b2 := serv_bounds hg (swapd s.l o n)
    obtain ⟨x, hx⟩ : ∃ x, x = serv F s.l := ⟨_, rfl⟩
    obtain ⟨y, hy⟩ : ∃ y, y = serv F (swapd s.l o n) := ⟨_, rfl⟩
    have C1 := Lib.hid (fun u (hu : Below wA.heap.size wA u) => serviceFor_serv F s u (HFA.out.on hu) (HSA.out.on hu) h.two s.l rfl x hx)
    have C2 := Lib.hid (fun u (hu : Below wA.heap.size wA u) (t : Row) (ht : t.At u) (htl : t.l = swapd s.l o n) => serviceFor_serv F t u (HFA.out.on hu) ht (swapd_two h htl) (swapd s.l o n) htl y hy)
    have HG : Hid (v = x - y) := Lib.hid (by rw [hv]; unfold gain; rw [hx, hy])
    rw [← hx] at b1
    rw [← hy] at b2
    have e1 : -9223372036854775808 ≤ x - y := by omega
    have e2 : x - y ≤ 9223372036854775807 := by omega
    clear hx hy h hg hv
    go_enter Try.func29, Try.ntmps29
    go_wp2_with fail
    rw [show w.alloc (Obj.cells #[F.o.val, F.t.val] 29) = wA from HA.out.symm]
    refine (show Calls _ _ _ _ _ from CT.out).mono ?_
    rintro e W1 ⟨t, rfl, htl, -, hti, hb1⟩
    have HS : Hid (∀ u, Below W1.heap.size W1 u → ((u.cell? ⟨w.heap.size, 0, none⟩ = some F.o.val ∧ u.cell? ⟨w.heap.size, 1, none⟩ = some F.t.val) ∧ Below W1.heap.size W1 u)) := Lib.hid fun u hu => ⟨⟨((HBX.out.on hb1).on hu).c0, ((HBX.out.on hb1).on hu).c1⟩, hu⟩
    have s0 := HS.out W1.drew (Below.refl _ _).drew
    have D1 := Lib.hid (fun u (hu : Below W1.heap.size W1 u) => C1.out u (hb1.trans (hu.mono hb1.size)))
    have D2 := Lib.hid (fun u (hu : Below W1.heap.size W1 u) => C2.out u (hb1.trans (hu.mono hb1.size)) t (hti.on hu).at htl)
    have y0 := (HBX.out.on hb1).c0
    have y1 := (HBX.out.on hb1).c1
    have HB := Lib.hid (hbA.trans (hb1.mono hbA.size))
    have hsz := HB.out.size
    clear htl hti hb1
    go_wp2_with fail
    go_region_held3 (fun u => ((u.cell? ⟨w.heap.size, 0, none⟩ = some F.o.val ∧ u.cell? ⟨w.heap.size, 1, none⟩ = some F.t.val) ∧ Below W1.heap.size W1 u)) (first | exact s0 | exact keep_reg HS.out (by first | assumption | exact And.right (by assumption)) hb1) (first | (go_at_call 54; refine (show Calls _ _ _ _ _ from D1.out _ (by first | assumption | exact And.right (by assumption))).mono ?_; rintro e u1 ⟨rfl, hb1⟩) | (go_at_call 54; refine (show Calls _ _ _ _ _ from D2.out _ (by first | assumption | exact And.right (by assumption))).mono ?_; rintro e u1 ⟨rfl, hb1⟩))
    refine at_exit (W := W1) (by first | assumption | exact And.right (by assumption)) ?_
    intro W8 hb8
    have hw : IntKind.i64.wrap (x - y) = x - y := IntWalk.i64_in _ (by omega)
    go_wp2
    go_ret2
    exact ⟨by rw [HG.out]; exact congrArg (fun z => Ending.returned (.tuple #[.int .i64 z, .bool true])) hw, HB.out.trans (hb8.mono hsz)⟩
  · have CT := Lib.hid (implSwap_any F s o n wA HFA.out HSA.out hsm _ _ (swaps_no h))
    clear h
    go_enter Try.func29, Try.ntmps29
    go_wp2_with fail
    rw [show w.alloc (Obj.cells #[F.o.val, F.t.val] 29) = wA from HA.out.symm]
    refine (show Calls _ _ _ _ _ from CT.out).mono ?_
    rintro e W1 ⟨t, rfl, htl, -, hti, hb1⟩
    have HTL := Lib.hid htl
    clear htl hti
    go_wp2
    go_ret2
    exact ⟨rfl, hbA.trans (hb1.mono hbA.size)⟩

set_option maxRecDepth 8000 in
set_option maxHeartbeats 2000000 in
theorem specGain_any (F : Fld) (s : Row) (o n : Int) (w : World) (hF : F.At w) (hs : s.At w) (hsm : s.l.length ≤ 1048576) (v : Int) (b : Bool) (hv : Gains F s o n v b) :
    Calls Try.prog 28 #[F.val, .slice s.a s.l.length s.c, .int .i64 o, .int .i64 n] w (PInt v b w) := by
  obtain ⟨wA, hA, hbA, bx, hFA, hszA⟩ := laid_fld F w 29 hF
  have HSA := Lib.hid (hs.on hbA)
  have HFA := Lib.hid hFA
  have HBX := Lib.hid bx
  have HA := Lib.hid hA
  have CT := Lib.hid (l2Two_any F s wA hFA HSA.out)
  have HV := Lib.hid hv
  have HNO : Hid (¬ SwapAt F s o n → ∀ W1, Below wA.heap.size wA W1 → PInt v b w (.returned (.tuple #[.int .i64 0, .bool false])) W1) := Lib.hid (fun h W1 hb1 => by
    rcases hv with ⟨h1, _⟩ | ⟨_, rfl, rfl⟩
    · exact absurd h1 h
    · exact ⟨rfl, hbA.trans (hb1.mono hbA.size)⟩)
  clear hF hs hA hFA bx hv
  show Calls _ _ #[.agg #[F.o.val, F.t.val], _, _, _] w _
  go_enter Try.func28, Try.ntmps28
  go_wp2_with fail
  rw [show w.alloc (Obj.cells #[F.o.val, F.t.val] 29) = wA from HA.out.symm]
  refine (show Calls _ _ _ _ _ from CT.out).mono ?_
  rintro e W1 ⟨rfl, hb1⟩
  have HW := Lib.hid hb1
  obtain ⟨t, ht⟩ : ∃ t, t = twoB F s := ⟨_, rfl⟩
  rw [← ht]
  cases t with
  | false =>
    have HB := Lib.hid (HNO.out (fun h => by rw [h.two] at ht; cases ht) W1 hb1)
    clear ht hb1
    go_wp2
    go_ret2
    exact HB.out
  | true =>
    have HT := Lib.hid ht
    have x0 : W1.cell? ⟨w.heap.size, 0, none⟩ = some (.slice F.o.a F.o.l.length F.o.c) := (HBX.out.on hb1).c0
    have x1 : W1.cell? ⟨w.heap.size, 1, none⟩ = some F.t.val := (HBX.out.on hb1).c1
    have hsz := good_sizes (twoB_iff.1 ht.symm).1
    have hoi : (F.o.l.length : Int) ≤ 7 := by omega
    have hoi0 : (1 : Int) ≤ (F.o.l.length : Int) := by omega
    obtain ⟨u, hu⟩ : ∃ u, u = hasI s.l o := ⟨_, rfl⟩
    obtain ⟨v', hv'⟩ : ∃ u, u = hasI s.l n := ⟨_, rfl⟩
    obtain ⟨z, hz⟩ : ∃ z, z = (decide (0 ≤ n) && decide (n ≤ (F.o.l.length : Int) - 1)) := ⟨_, rfl⟩
    have C1 := Lib.hid (by have := l1Has_any s o W1 (HSA.out.on hb1); rw [← hu] at this; exact this : Calls Try.prog 67 #[.slice s.a s.l.length s.c, .int .i64 o] W1 fun e w' => e = .returned (.bool u) ∧ w' = W1)
    have C2 := Lib.hid (by have := l1Has_any s n W1 (HSA.out.on hb1); rw [← hv'] at this; exact this : Calls Try.prog 67 #[.slice s.a s.l.length s.c, .int .i64 n] W1 fun e w' => e = .returned (.bool v') ∧ w' = W1)
    have C3 := Lib.hid (by have := l1In_any n 0 ((F.o.l.length : Int) - 1) W1; rw [← hz] at this; exact this : Calls Try.prog 68 #[.int .i64 n, .int .i64 0, .int .i64 ((F.o.l.length : Int) - 1)] W1 fun e w' => e = .returned (.bool z) ∧ w' = W1)
    have C4 := Lib.hid (fun h => l4Gain_any F s o n W1 (HFA.out.on hb1) (HSA.out.on hb1) hsm h)
    have HU := Lib.hid hu
    have HVV := Lib.hid hv'
    have HZ := Lib.hid hz
    have w1 : IntKind.i64.wrap ((F.o.l.length : Int) - 1) = (F.o.l.length : Int) - 1 := IntWalk.i64_in _ (by omega)
    have e1 : -9223372036854775808 ≤ (F.o.l.length : Int) - 1 := by omega
    have e2 : (F.o.l.length : Int) - 1 ≤ 9223372036854775807 := by omega
    clear ht hsz hu hv' hz hb1
    go_wp2_with fail
    refine C1.out.mono ?_
    rintro e W ⟨rfl, rfl⟩
    cases u with
    | false =>
      have HB := Lib.hid (HNO.out (fun h => by have := h.has; rw [← HU.out] at this; cases this) _ HW.out)
      go_wp2
      go_ret2
      exact HB.out
    | true =>
      go_wp2_with fail
      refine C2.out.mono ?_
      rintro e W ⟨rfl, rfl⟩
      cases v' with
      | true =>
        have HB := Lib.hid (HNO.out (fun h => by have := h.no; rw [← HVV.out] at this; cases this) _ HW.out)
        go_wp2
        go_ret2
        exact HB.out
      | false =>
        go_wp2_with fail
        refine C3.out.mono ?_
        rintro e W ⟨rfl, rfl⟩
        cases z with
        | false =>
          have HB := Lib.hid (HNO.out (fun h => by
            have h1 := h.lo; have h2 := h.hi
            have := HZ.out
            rw [decide_eq_true h1, decide_eq_true (by omega : n ≤ (F.o.l.length : Int) - 1)] at this; cases this) _ HW.out)
          go_wp2
          go_ret2
          exact HB.out
        | true =>
          have hok : SwapAt F s o n := by
            have hz := HZ.out.symm
            rw [Bool.and_eq_true, decide_eq_true_eq, decide_eq_true_eq] at hz
            exact ⟨HT.out.symm, hz.1, by omega, HVV.out.symm, HU.out.symm⟩
          have HO : Hid (v = gain F s.l o n ∧ b = true) := Lib.hid (by
            rcases HV.out with ⟨_, h⟩ | ⟨h, _⟩
            · exact h
            · exact absurd hok h)
          have CG := Lib.hid (C4.out hok)
          clear hok
          go_wp2_with fail
          refine CG.out.mono ?_
          rintro e W2 ⟨rfl, hb2⟩
          have hb := HW.out
          go_wp2
          go_ret2
          exact ⟨by rw [HO.out.1, HO.out.2]; rfl, hbA.trans ((hb.trans (hb2.mono hb.size)).mono hbA.size)⟩

theorem swapGain_pair (F : Fld) (s : Row) (o n : Int) (_ : (Lit.int .i64 o).wf = true) (_ : (Lit.int .i64 n).wf = true) (_ : F.Small) (hs : s.l.length ≤ 1048576) : ∃ (v : Int) (b : Bool),
    (∀ (G : Fld) (t : Row) (W : World), G.At W → t.At W → G.Like F → t.l = s.l → Calls Try.prog 28 #[G.val, .slice t.a t.l.length t.c, .int .i64 o, .int .i64 n] W (PInt v b W)) ∧
    (∀ (G : Fld) (t : Row) (W : World), G.At W → t.At W → G.Like F → t.l = s.l → Calls Try.prog 29 #[G.val, .slice t.a t.l.length t.c, .int .i64 o, .int .i64 n] W (PInt v b W)) := by
  obtain ⟨v, b, h⟩ := gains_some F s o n
  exact ⟨v, b, fun G t W hG ht hlk hst => specGain_any G t o n W hG ht (by rw [hst]; exact hs) v b (gains_like h hlk hst), fun G t W hG ht hlk hst => implGain_any G t o n W hG ht (by rw [hst]; exact hs) v b (gains_like h hlk hst)⟩
end Go.Proofs.Ytfmodibahpgkmaa
