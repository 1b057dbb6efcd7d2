/- The cost of a move on the program's side. Condition: a valid Season, a round of it, sets of its sites, the second of which may be that of the round. -/
import Derived.Test.YtifgmbljimfebaaMoveBound
namespace Go.Proofs.Ytifgmbljimfebaa
open Go.RowKit Go.Shelf

set_option maxRecDepth 32000 in
set_option maxHeartbeats 2000000 in
theorem moveCost_any (S : Sea) (i : Nat) (s t : Row) (B T : List Nat) (w : World) (hS : S.At w) (hs : s.At w) (ht : t.At w) (h : Moves S i s t B T) :
    Calls Try.prog 73 #[.agg #[.slice S.o.a S.o.l.length S.o.c, .slice S.x.a S.x.l.length S.x.c, .slice S.k.a S.k.l.length S.k.c, .slice S.r.a S.r.T.length S.r.c], .int .i64 i, .slice s.a s.l.length s.c, .slice t.a t.l.length t.c] w fun e w' => e = .returned (.int .i64 (moveC S.o.l S.x.l S.k.l (S.r.con.getD i []) B T)) ∧ Below w.heap.size w w' := by
  obtain ⟨wA, hA, hbA, bx, hSA, hszA⟩ := laid_sea S w 31 hS
  obtain ⟨h1, h2, h3, h4, h5, h6, h7⟩ := h.parts
  obtain ⟨ls, lt, lB, lT, l3, l4⟩ := h.lens
  have HSA := Lib.hid hSA
  have HsA := Lib.hid (hs.on hbA)
  have HtA := Lib.hid (ht.on hbA)
  obtain ⟨X, hX⟩ : ∃ X, X = S.r.T[i]'h.round := ⟨_, rfl⟩
  have hXc : S.r.con.getD i [] = X.con := by rw [getD_cube h.round, ← hX]
  rw [hXc] at h6 h7 ⊢
  obtain ⟨p1, hp1⟩ : ∃ p, p = (pays S.o.l (lessT T B)).sum := ⟨_, rfl⟩
  obtain ⟨p2, hp2⟩ : ∃ p, p = (pays S.x.l (lessT B T)).sum := ⟨_, rfl⟩
  obtain ⟨p3, hp3⟩ : ∃ p, p = (pays S.k.l T).sum := ⟨_, rfl⟩
  obtain ⟨p4, hp4⟩ : ∃ p, p = (lens X.con T).sum := ⟨_, rfl⟩
  have lTB : (lessT T B).length ≤ 5 := by have := less_len T B; omega
  have lBT : (lessT B T).length ≤ 5 := by have := less_len B T; omega
  have a1 := pays_sum_bound h1 lTB
  have a2 := pays_sum_bound h2 lBT
  have a3 := pays_sum_bound h3 lT
  have a4 := lens_sum_bound (good_round l3 l4 h1 h6 h7) h6 T
  rw [← hp1] at a1
  rw [← hp2] at a2
  rw [← hp3] at a3
  rw [← hp4] at a4
  have HE : Hid (moveC S.o.l S.x.l S.k.l X.con B T = p1 + p2 + p3 + p4) := Lib.hid (by unfold moveC; rw [← hp1, ← hp2, ← hp3, ← hp4])
  rw [HE.out]
  have W1 := Lib.hid (fun (u : World) (hu : Below wA.heap.size wA u) => (by
    refine (less_any t s u (HtA.out.on hu) (HsA.out.on hu) (by omega) (by omega)).mono ?_
    rintro e w' ⟨y, h1', h2', _, h3', h4'⟩
    exact ⟨y, h1', by rw [h2', h.set, h.before]; exact less_up T B, h3'.at, h4'⟩ : Calls Try.prog 87 #[.slice t.a t.l.length t.c, .slice s.a s.l.length s.c] u fun e w' => ∃ y : Row, e = .returned (.slice y.a y.l.length y.c) ∧ y.l = up (lessT T B) ∧ y.At w' ∧ Below u.heap.size u w'))
  have W2 := Lib.hid (fun (u : World) (hu : Below wA.heap.size wA u) => (by
    refine (less_any s t u (HsA.out.on hu) (HtA.out.on hu) (by omega) (by omega)).mono ?_
    rintro e w' ⟨y, h1', h2', _, h3', h4'⟩
    exact ⟨y, h1', by rw [h2', h.set, h.before]; exact less_up B T, h3'.at, h4'⟩ : Calls Try.prog 87 #[.slice s.a s.l.length s.c, .slice t.a t.l.length t.c] u fun e w' => ∃ y : Row, e = .returned (.slice y.a y.l.length y.c) ∧ y.l = up (lessT B T) ∧ y.At w' ∧ Below u.heap.size u w'))
  have P1 := Lib.hid (fun (u : World) (hu : Below wA.heap.size wA u) (y : Row) (hy : y.At u) (hl : y.l = up (lessT T B)) => (by
    have := paymentFor_any ⟨S.o, ⟨none, 0, []⟩⟩ y (lessT T B) u ⟨HSA.out.1.on hu, none_tab u⟩ hy (cost_able S.o y _ l3 l4 h1 hl (less_lt h.ltT) lTB)
    rw [← hp1] at this; exact this : Calls Try.prog 86 #[.agg #[.slice S.o.a S.o.l.length S.o.c, .slice none 0 0], .slice y.a y.l.length y.c] u fun e w' => e = .returned (.int .i64 p1) ∧ Below u.heap.size u w'))
  have P2 := Lib.hid (fun (u : World) (hu : Below wA.heap.size wA u) (y : Row) (hy : y.At u) (hl : y.l = up (lessT B T)) => (by
    have := paymentFor_any ⟨S.x, ⟨none, 0, []⟩⟩ y (lessT B T) u ⟨HSA.out.2.1.on hu, none_tab u⟩ hy (cost_able S.x y _ (by rw [h4]; exact l3) (by rw [h4]; exact l4) h2 hl (by rw [h4]; exact less_lt h.ltB) lBT)
    rw [← hp2] at this; exact this : Calls Try.prog 86 #[.agg #[.slice S.x.a S.x.l.length S.x.c, .slice none 0 0], .slice y.a y.l.length y.c] u fun e w' => e = .returned (.int .i64 p2) ∧ Below u.heap.size u w'))
  have hgk : goodB S.k.l X.con = true := good_round (by rw [h5]; exact l3) (by rw [h5]; exact l4) h3 h6 (by rw [h5]; exact h7)
  have P3 := Lib.hid (fun (u : World) (hu : Below wA.heap.size wA u) (hX' : X.At u) => (by
    have := paymentFor_any ⟨S.k, X⟩ t T u ⟨HSA.out.2.2.1.on hu, hX'⟩ (HtA.out.on hu) ⟨hgk, h.set, by rw [h5]; exact h.ltT, by omega⟩
    rw [← hp3] at this; exact this : Calls Try.prog 86 #[.agg #[.slice S.k.a S.k.l.length S.k.c, .slice X.a X.R.length X.c], .slice t.a t.l.length t.c] u fun e w' => e = .returned (.int .i64 p3) ∧ Below u.heap.size u w'))
  have P4 := Lib.hid (fun (u : World) (hu : Below wA.heap.size wA u) (hX' : X.At u) => (by
    have := serviceE_any ⟨S.k, X⟩ t T u ⟨HSA.out.2.2.1.on hu, hX'⟩ (HtA.out.on hu) hgk h.set (by rw [h5]; exact h.ltT) (by
      have := h.some; rw [hXc, con_length] at this; exact this)
    rw [← hp4] at this; exact this : Calls Try.prog 88 #[.agg #[.slice S.k.a S.k.l.length S.k.c, .slice X.a X.R.length X.c], .slice t.a t.l.length t.c] u fun e w' => e = .returned (.int .i64 p4) ∧ Below u.heap.size u w'))
  have FR := Lib.hid (fun (u : World) (hu : Below wA.heap.size wA u) => fieldOfRound_any S i u (HSA.out.on hu) h.round X hX)
  have HXA := Lib.hid (show X.At wA by rw [hX]; exact hSA.2.2.2.2 _ (List.getElem_mem h.round))
  have HBX := Lib.hid bx
  have HA := Lib.hid hA
  have HBA := Lib.hid hbA
  have hN := (below_draws wA 1)
  have HS1 : Hid (∀ u, Below wA.heap.size wA u → (u.cell? ⟨w.heap.size, 0, none⟩ = some (.slice S.o.a S.o.l.length S.o.c) ∧ Below wA.heap.size wA u)) := Lib.hid fun u hu => ⟨(HBX.out.on hu).c0, hu⟩
  have HS2 : Hid (∀ u, Below wA.heap.size wA u → (u.cell? ⟨w.heap.size, 1, none⟩ = some (.slice S.x.a S.x.l.length S.x.c) ∧ Below wA.heap.size wA u)) := Lib.hid fun u hu => ⟨(HBX.out.on hu).c1, hu⟩
  have s0 := HS1.out wA.drew (Below.refl _ _).drew
  have hN : Below wA.heap.size wA wA.drew := (Below.refl _ _).drew
  have hszr : wA.heap.size ≤ wA.drew.heap.size := hN.size
  clear hS hs ht h hA hbA bx hSA hszA h1 h2 h3 h4 h5 h6 h7 ls lt lB lT l3 l4 hX hXc hp1 hp2 hp3 hp4 lTB lBT hgk HE
  go_enter Try.func73, Try.ntmps73
  go_wp2_with fail
  rw [← HA.out]
  go_region_held3 (fun u => (u.cell? ⟨w.heap.size, 0, none⟩ = some (.slice S.o.a S.o.l.length S.o.c) ∧ Below wA.heap.size wA u)) (first | exact s0 | exact HS1.out _ (by assumption)) (first | (go_at_call 87; refine (show Calls _ _ _ _ _ from W1.out _ hN).mono ?_; rintro e u1 ⟨y, rfl, hyl, hya, hb1⟩; have HY := Lib.hid hyl; have HYA := Lib.hid hya; have hB1 : Below wA.heap.size wA u1 := hN.trans (hb1.mono hszr); have hsz1 := hB1.size; clear hyl hya hb1) | (go_at_call 86; refine (show Calls _ _ _ _ _ from P1.out _ hB1 y HYA.out HY.out).mono ?_; rintro e u2 ⟨rfl, hb2⟩; have hB2 : Below wA.heap.size wA u2 := hB1.trans (hb2.mono hsz1); clear hb2))
  refine at_exit (W := wA) hB2 ?_
  intro V1 hV1
  clear hB1 hB2 hsz1 HY HYA s0 hN hszr
  have s0 := HS2.out V1.drew hV1.drew
  have hN : Below wA.heap.size wA V1.drew := hV1.drew
  have hszr : wA.heap.size ≤ V1.drew.heap.size := hN.size
  go_wp2_with fail
  go_region_held3 (fun u => (u.cell? ⟨w.heap.size, 1, none⟩ = some (.slice S.x.a S.x.l.length S.x.c) ∧ Below wA.heap.size wA u)) (first | exact s0 | exact HS2.out _ (by assumption)) (first | (go_at_call 87; refine (show Calls _ _ _ _ _ from W2.out _ hN).mono ?_; rintro e u1 ⟨y, rfl, hyl, hya, hb1⟩; have HY := Lib.hid hyl; have HYA := Lib.hid hya; have hB1 : Below wA.heap.size wA u1 := hN.trans (hb1.mono hszr); have hsz1 := hB1.size; clear hyl hya hb1) | (go_at_call 86; refine (show Calls _ _ _ _ _ from P2.out _ hB1 y HYA.out HY.out).mono ?_; rintro e u2 ⟨rfl, hb2⟩; have hB2 : Below wA.heap.size wA u2 := hB1.trans (hb2.mono hsz1); clear hb2))
  refine at_exit (W := wA) hB2 ?_
  intro V2 hV2
  clear hB1 hB2 hsz1 HY HYA s0 hN hszr hV1
  have hb2 := HBX.out.on hV2
  have y0 := hb2.c0
  have y1 := hb2.c1
  have y2 := hb2.c2
  have y3 := hb2.c3
  have FR2 := Lib.hid (FR.out V2 hV2)
  have hz2 := hV2.size
  clear hb2
  go_wp2_with fail
  refine (show Calls _ _ _ _ _ from FR2.out).mono ?_
  rintro e V3 ⟨rfl, hb3⟩
  have hV3 : Below wA.heap.size wA V3 := hV2.trans (hb3.mono hz2)
  obtain ⟨V4, hV4⟩ : ∃ u, u = V3.alloc (Obj.cells #[.slice S.k.a S.k.l.length S.k.c, .slice X.a X.R.length X.c] 71) := ⟨_, rfl⟩
  have hb4 : Below V3.heap.size V3 V4 := by rw [hV4]; exact below_alloc _ _
  have bx4 : Box2 V4 V3.heap.size (.slice S.k.a S.k.l.length S.k.c) (.slice X.a X.R.length X.c) 71 := by rw [hV4]; exact Box2.made _ _ _ _
  have hV4A : Below wA.heap.size wA V4 := hV3.trans (hb4.mono hV3.size)
  have HX4 := Lib.hid hV4
  have HS3 : Hid (∀ u, Below V4.heap.size V4 u → ((u.cell? ⟨V3.heap.size, 0, none⟩ = some (.slice S.k.a S.k.l.length S.k.c) ∧ u.cell? ⟨V3.heap.size, 1, none⟩ = some (.slice X.a X.R.length X.c)) ∧ Below V4.heap.size V4 u)) := Lib.hid fun u hu => ⟨⟨(bx4.on hu).c0, (bx4.on hu).c1⟩, hu⟩
  have hz4 := hV4A.size
  have Q3 := Lib.hid (fun (u : World) (hu : Below V4.heap.size V4 u) => P3.out u (hV4A.trans (hu.mono hz4)) (HXA.out.on (hV4A.trans (hu.mono hz4))))
  have Q4 := Lib.hid (fun (u : World) (hu : Below V4.heap.size V4 u) => P4.out u (hV4A.trans (hu.mono hz4)) (HXA.out.on (hV4A.trans (hu.mono hz4))))
  have HBF := Lib.hid (fun (u : World) (hu : Below V4.heap.size V4 u) => HBA.out.trans ((hV4A.trans (hu.mono hz4)).mono HBA.out.size))
  have s0 := HS3.out V4.drew (Below.refl _ _).drew
  clear y0 y1 y2 y3 hb3 hV2 hV3 hb4 bx4 hV4A hz2 hz4 hV4 P1 P2 P3 P4 W1 W2 FR FR2 HS1 HS2
  have e1 : (0 : Int) ≤ p1 + p2 := by omega
  have e2 : p1 + p2 ≤ 9223372036854775807 := by omega
  have e3 : (0 : Int) ≤ p1 + p2 + p3 := by omega
  have e4 : p1 + p2 + p3 ≤ 9223372036854775807 := by omega
  have e5 : (0 : Int) ≤ p1 + p2 + p3 + p4 := by omega
  have e6 : p1 + p2 + p3 + p4 ≤ 9223372036854775807 := by omega
  go_wp2_with fail
  rw [← HX4.out]
  go_region_held3 (fun u => ((u.cell? ⟨V3.heap.size, 0, none⟩ = some (.slice S.k.a S.k.l.length S.k.c) ∧ u.cell? ⟨V3.heap.size, 1, none⟩ = some (.slice X.a X.R.length X.c)) ∧ Below V4.heap.size V4 u)) (first | exact s0 | exact keep_reg HS3.out (by first | assumption | exact And.right (by assumption)) hb1) (first | (go_at_call 86; refine (show Calls _ _ _ _ _ from Q3.out _ (by first | assumption | exact And.right (by assumption))).mono ?_; rintro e u1 ⟨rfl, hb1⟩) | (go_at_call 88; refine (show Calls _ _ _ _ _ from Q4.out _ (by first | assumption | exact And.right (by assumption))).mono ?_; rintro e u1 ⟨rfl, hb1⟩))
  refine at_exit (W := V4) (by first | assumption | exact And.right (by assumption)) ?_
  intro W8 hb8
  have w1 : IntKind.i64.wrap (p1 + p2) = p1 + p2 := IntWalk.i64_in _ (by omega)
  have w2 : IntKind.i64.wrap (p1 + p2 + p3) = p1 + p2 + p3 := IntWalk.i64_in _ (by omega)
  have w3 : IntKind.i64.wrap (p1 + p2 + p3 + p4) = p1 + p2 + p3 + p4 := IntWalk.i64_in _ (by omega)
  go_wp2
  go_ret
  exact ⟨by first | rfl | exact congrArg (fun z => Ending.returned (.int .i64 z)) (by first | rw [w1, w2, w3] | rw [w2, w3] | rw [w3]), HBF.out W8 hb8⟩


end Go.Proofs.Ytifgmbljimfebaa
