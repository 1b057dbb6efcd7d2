/- PlanProof on both sides. Condition: Season, plan and table read as such. -/
import Derived.Test.YtifgmbljimfebaaProofImpl
namespace Go.Proofs.Ytifgmbljimfebaa
open Go.RowKit Go.Shelf

set_option maxRecDepth 32000 in
set_option maxHeartbeats 2000000 in
theorem specProof_any (S : Sea) (P T : Tab) (w : World) (hS : S.At w) (hP : P.At w) (hT : T.At w) (v b : Bool) (hv : PProof S P T v b) :
    Calls Try.prog 15 #[.agg #[.slice S.o.a S.o.l.length S.o.c, .slice S.x.a S.x.l.length S.x.c, .slice S.k.a S.k.l.length S.k.c, .slice S.r.a S.r.T.length S.r.c], .slice P.a P.R.length P.c, .slice T.a T.R.length T.c] w fun e w' => e = .returned (.tuple #[.bool v, .bool b]) ∧ Below w.heap.size w w' := by
  obtain ⟨l, hm, h5, hb, hvv⟩ := hv
  obtain ⟨wA, hA, hbA, bx, hSA, hszA⟩ := laid_sea S w 31 hS
  have x0 := bx.c0
  have x1 := bx.c1
  have x2 := bx.c2
  have x3 := bx.c3
  rw [hA] at x0 x1 x2 x3
  have HA := Lib.hid hA
  have HH : Hid (∀ u, Below wA.heap.size wA u → SeaTab S T w.heap.size 0 u) := Lib.hid fun u hu => ⟨bx.on hu, hSA.on hu, (hT.on hbA).on hu⟩
  have HP : Hid (∀ u, Below wA.heap.size wA u → P.At u) := Lib.hid fun u hu => (hP.on hbA).on hu
  obtain ⟨g0, hg0⟩ : ∃ g, g = S.good := ⟨_, rfl⟩
  obtain ⟨g1, hg1⟩ : ∃ g, g = planB S.o.l.length S.r.con P.con := ⟨_, rfl⟩
  obtain ⟨v1, hv1⟩ : ∃ z, z = tab10 S.o.l.length S.r.T.length T.con := ⟨_, rfl⟩
  obtain ⟨v2, hv2⟩ : ∃ z, z = safeB S T.con := ⟨_, rfl⟩
  obtain ⟨x, hx⟩ : ∃ x, x = (T.con.getD 0 []).getD 0 0 := ⟨_, rfl⟩
  obtain ⟨y, hy⟩ : ∃ y, y = l.sum := ⟨_, rfl⟩
  rw [← hv1, ← hv2, ← hx, ← hy] at hvv
  have CG := Lib.hid (by have := l10Good_any S wA hSA; rw [← hg0] at this; exact this)
  have CP : Hid (∀ u, Below wA.heap.size wA u → Calls Try.prog 36 #[.agg #[.slice S.o.a S.o.l.length S.o.c, .slice S.x.a S.x.l.length S.x.c, .slice S.k.a S.k.l.length S.k.c, .slice S.r.a S.r.T.length S.r.c], .slice P.a P.R.length P.c] u fun e w' => e = .returned (.bool g1) ∧ Below u.heap.size u w') := Lib.hid fun u hu => by rw [hg1]; exact l10Plan_any S P u (HH.out u hu).sea (HP.out u hu)
  have HF : Hid ((g0 && g1) = false → v = false ∧ b = false) := Lib.hid fun e => by
    rcases hm with ⟨_, _, h'⟩ | ⟨h1, h2, _⟩
    · rw [h'] at hvv ⊢; exact ⟨hvv, rfl⟩
    · rw [hg0, hg1, h1, h2] at e; cases e
  have HT : Hid ((g0 && g1) = true → S.good = true ∧ planB S.o.l.length S.r.con P.con = true ∧ l = movesL S.o.l S.x.l S.k.l S.r.con P.con ∧ b = true) := Lib.hid fun e => by
    rcases hm with h | h
    · have := h.1; rw [← hg0, ← hg1, e] at this; cases this
    · exact h
  have CT : Hid (S.good = true → ∀ u, Below wA.heap.size wA u → Calls Try.prog 27 #[.agg #[.slice S.o.a S.o.l.length S.o.c, .slice S.x.a S.x.l.length S.x.c, .slice S.k.a S.k.l.length S.k.c, .slice S.r.a S.r.T.length S.r.c], .slice T.a T.R.length T.c] u fun e w' => e = .returned (.bool v1) ∧ Below u.heap.size u w') := Lib.hid fun h u hu => by rw [hv1]; exact l10Table_any S T u (HH.out u hu).sea (HH.out u hu).tab h
  have CZ : Hid (S.good = true → v1 = true → ∀ u, Below wA.heap.size wA u → Calls Try.prog 28 #[.agg #[.slice S.o.a S.o.l.length S.o.c, .slice S.x.a S.x.l.length S.x.c, .slice S.k.a S.k.l.length S.k.c, .slice S.r.a S.r.T.length S.r.c], .slice T.a T.R.length T.c] u fun e w' => e = .returned (.bool v2) ∧ Below u.heap.size u w') := Lib.hid fun h h2 u hu => by rw [hv2]; exact l10Safe_any S T u (HH.out u hu).sea (HH.out u hu).tab h (hv1.symm.trans h2)
  have CMM : Hid (S.good = true → planB S.o.l.length S.r.con P.con = true → l = movesL S.o.l S.x.l S.k.l S.r.con P.con → ∀ u, Below wA.heap.size wA u → Calls Try.prog 38 #[.agg #[.slice S.o.a S.o.l.length S.o.c, .slice S.x.a S.x.l.length S.x.c, .slice S.k.a S.k.l.length S.k.c, .slice S.r.a S.r.T.length S.r.c], .slice P.a P.R.length P.c] u fun e w' => ∃ t : Row, e = .returned (.slice t.a t.l.length t.c) ∧ t.l = l ∧ t.At w' ∧ Below u.heap.size u w') := Lib.hid fun h h2 hl u hu => by
    refine (l10Moves_any S P u (HH.out u hu).sea (HP.out u hu) h h2).mono ?_
    rintro e w' ⟨t, h1, h2, _, h4, h5⟩
    exact ⟨t, h1, h2.trans hl.symm, h4.at, h5⟩
  have CSUM : Hid (∀ (t : Row) u, t.At u → t.l = l → Calls Try.prog 37 #[.slice t.a t.l.length t.c] u fun e w' => e = .returned (.int .i64 y) ∧ Below u.heap.size u w') := Lib.hid fun t u ht e1 => by
    refine (l10Sum_any t u ht (by rw [e1]; exact hb) (by rw [e1]; exact h5)).mono ?_
    rintro e w' ⟨q1, q2⟩
    subst q2
    exact ⟨by rw [q1, e1, hy], Below.refl _ _⟩
  have HC : Hid (v1 = true → ∃ pb po rb ro rc q, T.a = some ⟨pb, po, none⟩ ∧ 0 < T.R.length ∧ 0 < q ∧ ∀ u, Below wA.heap.size wA u → u.cell? ⟨pb, po, none⟩ = some (.slice (some ⟨rb, ro, none⟩) q rc) ∧ u.cell? ⟨rb, ro, none⟩ = some (.int .i64 x)) := Lib.hid fun h => by
    rw [hx]
    exact proof_cells (hT.on hbA) (hv1.symm.trans h)
  obtain ⟨pa, hpa⟩ : ∃ a, a = T.a := ⟨_, rfl⟩
  obtain ⟨M, hM⟩ : ∃ M, M = T.R.length := ⟨_, rfl⟩
  have HV := Lib.hid hvv
  have HBA := Lib.hid hbA
  rw [← hpa, ← hM] at CT CZ HC
  rw [← hpa, ← hM]
  clear hS hP hT hA bx hSA hszA hbA hm h5 hb hvv hg0 hg1 hv1 hv2 hx hy hpa hM
  go_enter Try.func15, Try.ntmps15
  go_wp2_with fail
  rw [← HA.out]
  refine (show Calls _ _ _ _ _ from CG.out).mono ?_
  rintro e W1 ⟨rfl, hb1⟩
  have HB1 := Lib.hid hb1
  have HW1 := Lib.hid (HBA.out.trans (hb1.mono HBA.out.size))
  clear x0 x1 x2 x3 hb1
  cases g0 with
  | false =>
    obtain ⟨rfl, rfl⟩ := HF.out rfl
    go_wp2
    go_ret2
    exact ⟨rfl, HW1.out⟩
  | true =>
    have b1 := (HH.out W1 HB1.out).box
    have y0 := b1.c0
    have y1 := b1.c1
    have y2 := b1.c2
    have y3 := b1.c3
    have CP1 := Lib.hid (CP.out W1 HB1.out)
    clear b1
    go_wp2_with fail
    refine (show Calls _ _ _ _ _ from CP1.out).mono ?_
    rintro e V ⟨rfl, hb2⟩
    have HB2 := Lib.hid (HB1.out.trans (hb2.mono HB1.out.size))
    have HW2 := Lib.hid (HW1.out.trans (hb2.mono HW1.out.size))
    clear y0 y1 y2 y3 hb2
    cases g1 with
    | false =>
      obtain ⟨rfl, rfl⟩ := HF.out rfl
      go_wp2
      go_ret2
      exact ⟨rfl, HW2.out⟩
    | true =>
      obtain ⟨hg, hp, hl, rfl⟩ := HT.out rfl
      have CT2 := Lib.hid (fun u (hu : Below V.heap.size V u) => CT.out hg u (HB2.out.trans (hu.mono HB2.out.size)))
      have CZ0 := Lib.hid (fun (h : v1 = true) u (hu : Below V.heap.size V u) => CZ.out hg h u (HB2.out.trans (hu.mono HB2.out.size)))
      have CM2 := Lib.hid (fun u (hu : Below V.heap.size V u) => CMM.out hg hp hl u (HB2.out.trans (hu.mono HB2.out.size)))
      clear hg hp hl
      have HS0 : Hid (∀ u, Below V.heap.size V u → ((u.cell? ⟨w.heap.size, 0, none⟩ = some (.slice S.o.a S.o.l.length S.o.c) ∧ u.cell? ⟨w.heap.size, 1, none⟩ = some (.slice S.x.a S.x.l.length S.x.c) ∧ u.cell? ⟨w.heap.size, 2, none⟩ = some (.slice S.k.a S.k.l.length S.k.c) ∧ u.cell? ⟨w.heap.size, 3, none⟩ = some (.slice S.r.a S.r.T.length S.r.c)) ∧ Below V.heap.size V u)) := Lib.hid fun u hu => by
        have b1 := (HH.out u (HB2.out.trans (hu.mono HB2.out.size))).box
        exact ⟨⟨b1.c0, b1.c1, b1.c2, b1.c3⟩, hu⟩
      cases v1 with
      | false =>
        obtain rfl : v = false := HV.out
        have HS := HS0
        have s0 := HS.out V.drew (Below.refl _ _).drew
        go_wp2_with fail
        refine wp_region_held_drew (S := fun u => ((u.cell? ⟨w.heap.size, 0, none⟩ = some (.slice S.o.a S.o.l.length S.o.c) ∧ u.cell? ⟨w.heap.size, 1, none⟩ = some (.slice S.x.a S.x.l.length S.x.c) ∧ u.cell? ⟨w.heap.size, 2, none⟩ = some (.slice S.k.a S.k.l.length S.k.c) ∧ u.cell? ⟨w.heap.size, 3, none⟩ = some (.slice S.r.a S.r.T.length S.r.c)) ∧ Below V.heap.size V u)) (by kernel_rfl) s0 (fun hHeld => ?_)
        refine wpAnyH_take (i := 0) (v := ?vvSA0) rfl (by kernel_rfl) (by kernel_rfl) (by kernel_rfl) (fun _ _ _ h => h) (Or.inl ⟨by rfl, ?hySA0⟩) (by assumption) ?restSA0
        case hySA0 => (intro w hSw; (try dsimp only at hSw); (try simp only [List.getElem_toArray, List.getElem_cons_zero]); go_simp <;> with_reducible rfl)
        try simp only [Act.put, List.getElem_toArray, List.getElem_cons_zero, List.setIfInBounds_toArray, List.set_cons_zero, List.set_cons_succ]
        refine wpAnyH_take (i := 1) (v := ?vvSA1) rfl (by kernel_rfl) (by kernel_rfl) (by kernel_rfl) (fun _ _ _ h => h) (Or.inl ⟨by rfl, ?hySA1⟩) (by assumption) ?restSA1
        case hySA1 => (intro w hSw; (try dsimp only at hSw); (try simp only [List.getElem_toArray, List.getElem_cons_zero, List.getElem_cons_succ]); go_simp <;> with_reducible rfl)
        try simp only [Act.put, List.getElem_toArray, List.getElem_cons_zero, List.getElem_cons_succ, List.setIfInBounds_toArray, List.set_cons_zero, List.set_cons_succ]
        refine wpAnyH_ready (rs := [2]) (by kernel_rfl) (by simp) ?_
        refine AllReadyH.cons rfl (fun K hK => ?_) AllReadyH.nil
        try simp only [List.getElem_toArray, List.getElem_cons_zero, List.getElem_cons_succ]
        go_simp
        go_at_call 27
        refine (show Calls _ _ _ _ _ from CT2.out _ (by first | assumption | exact And.right (by assumption))).mono ?_
        rintro e u1 ⟨rfl, hb1⟩
        have hB1 := keep_reg HS.out (by first | assumption | exact And.right (by assumption)) hb1
        go_wp2_with fail
        refine hK.out _ _ hB1 (fun hHeld1 => ?_)
        clear hK
        try simp only [Act.put, List.getElem_toArray, List.getElem_cons_zero, List.getElem_cons_succ, List.setIfInBounds_toArray, List.set_cons_zero, List.set_cons_succ]
        refine wpAnyH_take (i := 3) (v := ?vvSA3) rfl (by kernel_rfl) (by kernel_rfl) (by kernel_rfl) (fun _ _ _ h => h) (Or.inl ⟨by rfl, ?hySA3⟩) (by assumption) ?restSA3
        case hySA3 => (intro w hSw; (try dsimp only at hSw); (try simp only [List.getElem_toArray, List.getElem_cons_zero, List.getElem_cons_succ]); go_simp <;> with_reducible rfl)
        try simp only [Act.put, List.getElem_toArray, List.getElem_cons_zero, List.getElem_cons_succ, List.setIfInBounds_toArray, List.set_cons_zero, List.set_cons_succ]
        refine wpAnyH_take (i := 4) (v := undef) rfl (by kernel_rfl) (by kernel_rfl) (by kernel_rfl) (fun _ _ _ h => h) (Or.inr ⟨by rfl, rfl⟩) (by assumption) ?_
        try simp only [Act.put, List.getElem_toArray, List.getElem_cons_zero, List.getElem_cons_succ, List.setIfInBounds_toArray, List.set_cons_zero, List.set_cons_succ]
        refine wpAnyH_take (i := 5) (v := undef) rfl (by kernel_rfl) (by kernel_rfl) (by kernel_rfl) (fun _ _ _ h => h) (Or.inr ⟨by rfl, rfl⟩) (by assumption) ?_
        try simp only [Act.put, List.getElem_toArray, List.getElem_cons_zero, List.getElem_cons_succ, List.setIfInBounds_toArray, List.set_cons_zero, List.set_cons_succ]
        refine wpAnyH_take (i := 6) (v := undef) rfl (by kernel_rfl) (by kernel_rfl) (by kernel_rfl) (fun _ _ _ h => h) (Or.inr ⟨by rfl, rfl⟩) (by assumption) ?_
        try simp only [Act.put, List.getElem_toArray, List.getElem_cons_zero, List.getElem_cons_succ, List.setIfInBounds_toArray, List.set_cons_zero, List.set_cons_succ]
        refine wpAnyH_take (i := 7) (v := ?vvSA7) rfl (by kernel_rfl) (by kernel_rfl) (by kernel_rfl) (fun _ _ _ h => h) (Or.inl ⟨by rfl, ?hySA7⟩) (by assumption) ?restSA7
        case hySA7 => (intro w hSw; (try dsimp only at hSw); (try simp only [List.getElem_toArray, List.getElem_cons_zero, List.getElem_cons_succ]); go_simp <;> with_reducible rfl)
        try simp only [Act.put, List.getElem_toArray, List.getElem_cons_zero, List.getElem_cons_succ, List.setIfInBounds_toArray, List.set_cons_zero, List.set_cons_succ]
        refine wpAnyH_take (i := 8) (v := ?vvSA8) rfl (by kernel_rfl) (by kernel_rfl) (by kernel_rfl) (fun _ _ _ h => h) (Or.inl ⟨by rfl, ?hySA8⟩) (by assumption) ?restSA8
        case hySA8 => (intro w hSw; (try dsimp only at hSw); (try simp only [List.getElem_toArray, List.getElem_cons_zero, List.getElem_cons_succ]); go_simp <;> with_reducible rfl)
        try simp only [Act.put, List.getElem_toArray, List.getElem_cons_zero, List.getElem_cons_succ, List.setIfInBounds_toArray, List.set_cons_zero, List.set_cons_succ]
        refine wpAnyH_take (i := 9) (v := undef) rfl (by kernel_rfl) (by kernel_rfl) (by kernel_rfl) (fun _ _ _ h => h) (Or.inr ⟨by rfl, rfl⟩) (by assumption) ?_
        try simp only [Act.put, List.getElem_toArray, List.getElem_cons_zero, List.getElem_cons_succ, List.setIfInBounds_toArray, List.set_cons_zero, List.set_cons_succ]
        refine wpAnyH_take (i := 10) (v := undef) rfl (by kernel_rfl) (by kernel_rfl) (by kernel_rfl) (fun _ _ _ h => h) (Or.inr ⟨by rfl, rfl⟩) (by assumption) ?_
        try simp only [Act.put, List.getElem_toArray, List.getElem_cons_zero, List.getElem_cons_succ, List.setIfInBounds_toArray, List.set_cons_zero, List.set_cons_succ]
        refine wpAnyH_take (i := 11) (v := undef) rfl (by kernel_rfl) (by kernel_rfl) (by kernel_rfl) (fun _ _ _ h => h) (Or.inr ⟨by rfl, rfl⟩) (by assumption) ?_
        try simp only [Act.put, List.getElem_toArray, List.getElem_cons_zero, List.getElem_cons_succ, List.setIfInBounds_toArray, List.set_cons_zero, List.set_cons_succ]
        refine wpAnyH_take (i := 12) (v := undef) rfl (by kernel_rfl) (by kernel_rfl) (by kernel_rfl) (fun _ _ _ h => h) (Or.inr ⟨by rfl, rfl⟩) (by assumption) ?_
        try simp only [Act.put, List.getElem_toArray, List.getElem_cons_zero, List.getElem_cons_succ, List.setIfInBounds_toArray, List.set_cons_zero, List.set_cons_succ]
        refine wpAnyH_take (i := 13) (v := undef) rfl (by kernel_rfl) (by kernel_rfl) (by kernel_rfl) (fun _ _ _ h => h) (Or.inr ⟨by rfl, rfl⟩) (by assumption) ?_
        try simp only [Act.put, List.getElem_toArray, List.getElem_cons_zero, List.getElem_cons_succ, List.setIfInBounds_toArray, List.set_cons_zero, List.set_cons_succ]
        refine wpAnyH_take (i := 14) (v := undef) rfl (by kernel_rfl) (by kernel_rfl) (by kernel_rfl) (fun _ _ _ h => h) (Or.inr ⟨by rfl, rfl⟩) (by assumption) ?_
        try simp only [Act.put, List.getElem_toArray, List.getElem_cons_zero, List.getElem_cons_succ, List.setIfInBounds_toArray, List.set_cons_zero, List.set_cons_succ]
        refine wpAnyH_take (i := 15) (v := undef) rfl (by kernel_rfl) (by kernel_rfl) (by kernel_rfl) (fun _ _ _ h => h) (Or.inr ⟨by rfl, rfl⟩) (by assumption) ?_
        try simp only [Act.put, List.getElem_toArray, List.getElem_cons_zero, List.getElem_cons_succ, List.setIfInBounds_toArray, List.set_cons_zero, List.set_cons_succ]
        refine wpAnyH_take (i := 16) (v := undef) rfl (by kernel_rfl) (by kernel_rfl) (by kernel_rfl) (fun _ _ _ h => h) (Or.inr ⟨by rfl, rfl⟩) (by assumption) ?_
        try simp only [Act.put, List.getElem_toArray, List.getElem_cons_zero, List.getElem_cons_succ, List.setIfInBounds_toArray, List.set_cons_zero, List.set_cons_succ]
        refine wpAnyH_take (i := 17) (v := undef) rfl (by kernel_rfl) (by kernel_rfl) (by kernel_rfl) (fun _ _ _ h => h) (Or.inr ⟨by rfl, rfl⟩) (by assumption) ?_
        try simp only [Act.put, List.getElem_toArray, List.getElem_cons_zero, List.getElem_cons_succ, List.setIfInBounds_toArray, List.set_cons_zero, List.set_cons_succ]
        refine wpAnyH_take (i := 18) (v := undef) rfl (by kernel_rfl) (by kernel_rfl) (by kernel_rfl) (fun _ _ _ h => h) (Or.inr ⟨by rfl, rfl⟩) (by assumption) ?_
        try simp only [Act.put, List.getElem_toArray, List.getElem_cons_zero, List.getElem_cons_succ, List.setIfInBounds_toArray, List.set_cons_zero, List.set_cons_succ]
        refine wpAnyH_take (i := 19) (v := ?vvSA19) rfl (by kernel_rfl) (by kernel_rfl) (by kernel_rfl) (fun _ _ _ h => h) (Or.inl ⟨by rfl, ?hySA19⟩) (by assumption) ?restSA19
        case hySA19 => (intro w hSw; (try dsimp only at hSw); (try simp only [List.getElem_toArray, List.getElem_cons_zero, List.getElem_cons_succ]); go_simp <;> with_reducible rfl)
        try simp only [Act.put, List.getElem_toArray, List.getElem_cons_zero, List.getElem_cons_succ, List.setIfInBounds_toArray, List.set_cons_zero, List.set_cons_succ]
        refine wpAnyH_take (i := 20) (v := ?vvSA20) rfl (by kernel_rfl) (by kernel_rfl) (by kernel_rfl) (fun _ _ _ h => h) (Or.inl ⟨by rfl, ?hySA20⟩) (by assumption) ?restSA20
        case hySA20 => (intro w hSw; (try dsimp only at hSw); (try simp only [List.getElem_toArray, List.getElem_cons_zero, List.getElem_cons_succ]); go_simp <;> with_reducible rfl)
        try simp only [Act.put, List.getElem_toArray, List.getElem_cons_zero, List.getElem_cons_succ, List.setIfInBounds_toArray, List.set_cons_zero, List.set_cons_succ]
        refine wpAnyH_take (i := 21) (v := ?vvSA21) rfl (by kernel_rfl) (by kernel_rfl) (by kernel_rfl) (fun _ _ _ h => h) (Or.inl ⟨by rfl, ?hySA21⟩) (by assumption) ?restSA21
        case hySA21 => (intro w hSw; (try dsimp only at hSw); (try simp only [List.getElem_toArray, List.getElem_cons_zero, List.getElem_cons_succ]); go_simp <;> with_reducible rfl)
        try simp only [Act.put, List.getElem_toArray, List.getElem_cons_zero, List.getElem_cons_succ, List.setIfInBounds_toArray, List.set_cons_zero, List.set_cons_succ]
        refine wpAnyH_done (by kernel_rfl) ?_ _
        refine at_exit (W := V) (by first | assumption | exact And.right (by assumption)) ?_
        intro V8 hb8
        have HF8 := Lib.hid (HW2.out.trans (hb8.mono HW2.out.size))
        clear s0 hb8 hHeld hHeld1 hB1 hb1
        go_wp2
        go_ret2
        exact ⟨rfl, HF8.out⟩
      | true =>
        have CZ2 := Lib.hid (CZ0.out rfl)
        cases v2 with
        | false =>
          obtain rfl : v = false := HV.out
          have HS := HS0
          have s0 := HS.out V.drew (Below.refl _ _).drew
          go_wp2_with fail
          refine wp_region_held_drew (S := fun u => ((u.cell? ⟨w.heap.size, 0, none⟩ = some (.slice S.o.a S.o.l.length S.o.c) ∧ u.cell? ⟨w.heap.size, 1, none⟩ = some (.slice S.x.a S.x.l.length S.x.c) ∧ u.cell? ⟨w.heap.size, 2, none⟩ = some (.slice S.k.a S.k.l.length S.k.c) ∧ u.cell? ⟨w.heap.size, 3, none⟩ = some (.slice S.r.a S.r.T.length S.r.c)) ∧ Below V.heap.size V u)) (by kernel_rfl) s0 (fun hHeld => ?_)
          refine wpAnyH_take (i := 0) (v := ?vvSB0) rfl (by kernel_rfl) (by kernel_rfl) (by kernel_rfl) (fun _ _ _ h => h) (Or.inl ⟨by rfl, ?hySB0⟩) (by assumption) ?restSB0
          case hySB0 => (intro w hSw; (try dsimp only at hSw); (try simp only [List.getElem_toArray, List.getElem_cons_zero]); go_simp <;> with_reducible rfl)
          try simp only [Act.put, List.getElem_toArray, List.getElem_cons_zero, List.setIfInBounds_toArray, List.set_cons_zero, List.set_cons_succ]
          refine wpAnyH_take (i := 1) (v := ?vvSB1) rfl (by kernel_rfl) (by kernel_rfl) (by kernel_rfl) (fun _ _ _ h => h) (Or.inl ⟨by rfl, ?hySB1⟩) (by assumption) ?restSB1
          case hySB1 => (intro w hSw; (try dsimp only at hSw); (try simp only [List.getElem_toArray, List.getElem_cons_zero, List.getElem_cons_succ]); go_simp <;> with_reducible rfl)
          try simp only [Act.put, List.getElem_toArray, List.getElem_cons_zero, List.getElem_cons_succ, List.setIfInBounds_toArray, List.set_cons_zero, List.set_cons_succ]
          refine wpAnyH_ready (rs := [2]) (by kernel_rfl) (by simp) ?_
          refine AllReadyH.cons rfl (fun K hK => ?_) AllReadyH.nil
          try simp only [List.getElem_toArray, List.getElem_cons_zero, List.getElem_cons_succ]
          go_simp
          go_at_call 27
          refine (show Calls _ _ _ _ _ from CT2.out _ (by first | assumption | exact And.right (by assumption))).mono ?_
          rintro e u1 ⟨rfl, hb1⟩
          have hB1 := keep_reg HS.out (by first | assumption | exact And.right (by assumption)) hb1
          go_wp2_with fail
          refine hK.out _ _ hB1 (fun hHeld1 => ?_)
          clear hK
          try simp only [Act.put, List.getElem_toArray, List.getElem_cons_zero, List.getElem_cons_succ, List.setIfInBounds_toArray, List.set_cons_zero, List.set_cons_succ]
          refine wpAnyH_take (i := 3) (v := ?vvSB3) rfl (by kernel_rfl) (by kernel_rfl) (by kernel_rfl) (fun _ _ _ h => h) (Or.inl ⟨by rfl, ?hySB3⟩) (by assumption) ?restSB3
          case hySB3 => (intro w hSw; (try dsimp only at hSw); (try simp only [List.getElem_toArray, List.getElem_cons_zero, List.getElem_cons_succ]); go_simp <;> with_reducible rfl)
          try simp only [Act.put, List.getElem_toArray, List.getElem_cons_zero, List.getElem_cons_succ, List.setIfInBounds_toArray, List.set_cons_zero, List.set_cons_succ]
          refine wpAnyH_take (i := 4) (v := ?vvSB4) rfl (by kernel_rfl) (by kernel_rfl) (by kernel_rfl) (fun _ _ _ h => h) (Or.inl ⟨by rfl, ?hySB4⟩) (by assumption) ?restSB4
          case hySB4 => (intro w hSw; (try dsimp only at hSw); (try simp only [List.getElem_toArray, List.getElem_cons_zero, List.getElem_cons_succ]); go_simp <;> with_reducible rfl)
          try simp only [Act.put, List.getElem_toArray, List.getElem_cons_zero, List.getElem_cons_succ, List.setIfInBounds_toArray, List.set_cons_zero, List.set_cons_succ]
          refine wpAnyH_take (i := 5) (v := ?vvSB5) rfl (by kernel_rfl) (by kernel_rfl) (by kernel_rfl) (fun _ _ _ h => h) (Or.inl ⟨by rfl, ?hySB5⟩) (by assumption) ?restSB5
          case hySB5 => (intro w hSw; (try dsimp only at hSw); (try simp only [List.getElem_toArray, List.getElem_cons_zero, List.getElem_cons_succ]); go_simp <;> with_reducible rfl)
          try simp only [Act.put, List.getElem_toArray, List.getElem_cons_zero, List.getElem_cons_succ, List.setIfInBounds_toArray, List.set_cons_zero, List.set_cons_succ]
          refine wpAnyH_ready (rs := [6]) (by kernel_rfl) (by simp) ?_
          refine AllReadyH.cons rfl (fun K hK => ?_) AllReadyH.nil
          try simp only [List.getElem_toArray, List.getElem_cons_zero, List.getElem_cons_succ]
          go_simp
          go_at_call 28
          refine (show Calls _ _ _ _ _ from CZ2.out _ (by first | assumption | exact And.right (by assumption))).mono ?_
          rintro e u2 ⟨rfl, hb2⟩
          have hB2 := keep_reg HS.out (by first | assumption | exact And.right (by assumption)) hb2
          go_wp2_with fail
          refine hK.out _ _ hB2 (fun hHeld2 => ?_)
          clear hK
          try simp only [Act.put, List.getElem_toArray, List.getElem_cons_zero, List.getElem_cons_succ, List.setIfInBounds_toArray, List.set_cons_zero, List.set_cons_succ]
          refine wpAnyH_take (i := 7) (v := ?vvSB7) rfl (by kernel_rfl) (by kernel_rfl) (by kernel_rfl) (fun _ _ _ h => h) (Or.inl ⟨by rfl, ?hySB7⟩) (by assumption) ?restSB7
          case hySB7 => (intro w hSw; (try dsimp only at hSw); (try simp only [List.getElem_toArray, List.getElem_cons_zero, List.getElem_cons_succ]); go_simp <;> with_reducible rfl)
          try simp only [Act.put, List.getElem_toArray, List.getElem_cons_zero, List.getElem_cons_succ, List.setIfInBounds_toArray, List.set_cons_zero, List.set_cons_succ]
          refine wpAnyH_take (i := 8) (v := ?vvSB8) rfl (by kernel_rfl) (by kernel_rfl) (by kernel_rfl) (fun _ _ _ h => h) (Or.inl ⟨by rfl, ?hySB8⟩) (by assumption) ?restSB8
          case hySB8 => (intro w hSw; (try dsimp only at hSw); (try simp only [List.getElem_toArray, List.getElem_cons_zero, List.getElem_cons_succ]); go_simp <;> with_reducible rfl)
          try simp only [Act.put, List.getElem_toArray, List.getElem_cons_zero, List.getElem_cons_succ, List.setIfInBounds_toArray, List.set_cons_zero, List.set_cons_succ]
          refine wpAnyH_take (i := 9) (v := undef) rfl (by kernel_rfl) (by kernel_rfl) (by kernel_rfl) (fun _ _ _ h => h) (Or.inr ⟨by rfl, rfl⟩) (by assumption) ?_
          try simp only [Act.put, List.getElem_toArray, List.getElem_cons_zero, List.getElem_cons_succ, List.setIfInBounds_toArray, List.set_cons_zero, List.set_cons_succ]
          refine wpAnyH_take (i := 10) (v := undef) rfl (by kernel_rfl) (by kernel_rfl) (by kernel_rfl) (fun _ _ _ h => h) (Or.inr ⟨by rfl, rfl⟩) (by assumption) ?_
          try simp only [Act.put, List.getElem_toArray, List.getElem_cons_zero, List.getElem_cons_succ, List.setIfInBounds_toArray, List.set_cons_zero, List.set_cons_succ]
          refine wpAnyH_take (i := 11) (v := undef) rfl (by kernel_rfl) (by kernel_rfl) (by kernel_rfl) (fun _ _ _ h => h) (Or.inr ⟨by rfl, rfl⟩) (by assumption) ?_
          try simp only [Act.put, List.getElem_toArray, List.getElem_cons_zero, List.getElem_cons_succ, List.setIfInBounds_toArray, List.set_cons_zero, List.set_cons_succ]
          refine wpAnyH_take (i := 12) (v := undef) rfl (by kernel_rfl) (by kernel_rfl) (by kernel_rfl) (fun _ _ _ h => h) (Or.inr ⟨by rfl, rfl⟩) (by assumption) ?_
          try simp only [Act.put, List.getElem_toArray, List.getElem_cons_zero, List.getElem_cons_succ, List.setIfInBounds_toArray, List.set_cons_zero, List.set_cons_succ]
          refine wpAnyH_take (i := 13) (v := undef) rfl (by kernel_rfl) (by kernel_rfl) (by kernel_rfl) (fun _ _ _ h => h) (Or.inr ⟨by rfl, rfl⟩) (by assumption) ?_
          try simp only [Act.put, List.getElem_toArray, List.getElem_cons_zero, List.getElem_cons_succ, List.setIfInBounds_toArray, List.set_cons_zero, List.set_cons_succ]
          refine wpAnyH_take (i := 14) (v := undef) rfl (by kernel_rfl) (by kernel_rfl) (by kernel_rfl) (fun _ _ _ h => h) (Or.inr ⟨by rfl, rfl⟩) (by assumption) ?_
          try simp only [Act.put, List.getElem_toArray, List.getElem_cons_zero, List.getElem_cons_succ, List.setIfInBounds_toArray, List.set_cons_zero, List.set_cons_succ]
          refine wpAnyH_take (i := 15) (v := undef) rfl (by kernel_rfl) (by kernel_rfl) (by kernel_rfl) (fun _ _ _ h => h) (Or.inr ⟨by rfl, rfl⟩) (by assumption) ?_
          try simp only [Act.put, List.getElem_toArray, List.getElem_cons_zero, List.getElem_cons_succ, List.setIfInBounds_toArray, List.set_cons_zero, List.set_cons_succ]
          refine wpAnyH_take (i := 16) (v := undef) rfl (by kernel_rfl) (by kernel_rfl) (by kernel_rfl) (fun _ _ _ h => h) (Or.inr ⟨by rfl, rfl⟩) (by assumption) ?_
          try simp only [Act.put, List.getElem_toArray, List.getElem_cons_zero, List.getElem_cons_succ, List.setIfInBounds_toArray, List.set_cons_zero, List.set_cons_succ]
          refine wpAnyH_take (i := 17) (v := undef) rfl (by kernel_rfl) (by kernel_rfl) (by kernel_rfl) (fun _ _ _ h => h) (Or.inr ⟨by rfl, rfl⟩) (by assumption) ?_
          try simp only [Act.put, List.getElem_toArray, List.getElem_cons_zero, List.getElem_cons_succ, List.setIfInBounds_toArray, List.set_cons_zero, List.set_cons_succ]
          refine wpAnyH_take (i := 18) (v := undef) rfl (by kernel_rfl) (by kernel_rfl) (by kernel_rfl) (fun _ _ _ h => h) (Or.inr ⟨by rfl, rfl⟩) (by assumption) ?_
          try simp only [Act.put, List.getElem_toArray, List.getElem_cons_zero, List.getElem_cons_succ, List.setIfInBounds_toArray, List.set_cons_zero, List.set_cons_succ]
          refine wpAnyH_take (i := 19) (v := ?vvSB19) rfl (by kernel_rfl) (by kernel_rfl) (by kernel_rfl) (fun _ _ _ h => h) (Or.inl ⟨by rfl, ?hySB19⟩) (by assumption) ?restSB19
          case hySB19 => (intro w hSw; (try dsimp only at hSw); (try simp only [List.getElem_toArray, List.getElem_cons_zero, List.getElem_cons_succ]); go_simp <;> with_reducible rfl)
          try simp only [Act.put, List.getElem_toArray, List.getElem_cons_zero, List.getElem_cons_succ, List.setIfInBounds_toArray, List.set_cons_zero, List.set_cons_succ]
          refine wpAnyH_take (i := 20) (v := ?vvSB20) rfl (by kernel_rfl) (by kernel_rfl) (by kernel_rfl) (fun _ _ _ h => h) (Or.inl ⟨by rfl, ?hySB20⟩) (by assumption) ?restSB20
          case hySB20 => (intro w hSw; (try dsimp only at hSw); (try simp only [List.getElem_toArray, List.getElem_cons_zero, List.getElem_cons_succ]); go_simp <;> with_reducible rfl)
          try simp only [Act.put, List.getElem_toArray, List.getElem_cons_zero, List.getElem_cons_succ, List.setIfInBounds_toArray, List.set_cons_zero, List.set_cons_succ]
          refine wpAnyH_take (i := 21) (v := ?vvSB21) rfl (by kernel_rfl) (by kernel_rfl) (by kernel_rfl) (fun _ _ _ h => h) (Or.inl ⟨by rfl, ?hySB21⟩) (by assumption) ?restSB21
          case hySB21 => (intro w hSw; (try dsimp only at hSw); (try simp only [List.getElem_toArray, List.getElem_cons_zero, List.getElem_cons_succ]); go_simp <;> with_reducible rfl)
          try simp only [Act.put, List.getElem_toArray, List.getElem_cons_zero, List.getElem_cons_succ, List.setIfInBounds_toArray, List.set_cons_zero, List.set_cons_succ]
          refine wpAnyH_done (by kernel_rfl) ?_ _
          refine at_exit (W := V) (by first | assumption | exact And.right (by assumption)) ?_
          intro V8 hb8
          have HF8 := Lib.hid (HW2.out.trans (hb8.mono HW2.out.size))
          clear s0 hb8 hHeld hHeld1 hB1 hb1 hHeld2 hB2 hb2
          go_wp2
          go_ret2
          exact ⟨rfl, HF8.out⟩
        | true =>
          obtain ⟨pb, po, rb, ro, rc, q, hpa, hM0, hq0, hcl⟩ := HC.out rfl
          have HS : Hid (∀ u, Below V.heap.size V u → ((u.cell? ⟨w.heap.size, 0, none⟩ = some (.slice S.o.a S.o.l.length S.o.c) ∧ u.cell? ⟨w.heap.size, 1, none⟩ = some (.slice S.x.a S.x.l.length S.x.c) ∧ u.cell? ⟨w.heap.size, 2, none⟩ = some (.slice S.k.a S.k.l.length S.k.c) ∧ u.cell? ⟨w.heap.size, 3, none⟩ = some (.slice S.r.a S.r.T.length S.r.c) ∧ u.cell? ⟨pb, po, none⟩ = some (.slice (some ⟨rb, ro, none⟩) q rc) ∧ u.cell? ⟨rb, ro, none⟩ = some (.int .i64 x)) ∧ Below V.heap.size V u)) := Lib.hid fun u hu => by
            obtain ⟨⟨a1, a2, a3, a4⟩, _⟩ := HS0.out u hu
            obtain ⟨c1, c2⟩ := hcl u (HB2.out.trans (hu.mono HB2.out.size))
            exact ⟨⟨a1, a2, a3, a4, c1, c2⟩, hu⟩
          have s0 := HS.out V.drew (Below.refl _ _).drew
          have hMi : (0 : Int) < (M : Int) := by omega
          have hqi : (0 : Int) < (q : Int) := by omega
          clear hcl
          subst hpa
          go_wp2_with fail
          refine wp_region_held_drew (S := fun u => ((u.cell? ⟨w.heap.size, 0, none⟩ = some (.slice S.o.a S.o.l.length S.o.c) ∧ u.cell? ⟨w.heap.size, 1, none⟩ = some (.slice S.x.a S.x.l.length S.x.c) ∧ u.cell? ⟨w.heap.size, 2, none⟩ = some (.slice S.k.a S.k.l.length S.k.c) ∧ u.cell? ⟨w.heap.size, 3, none⟩ = some (.slice S.r.a S.r.T.length S.r.c) ∧ u.cell? ⟨pb, po, none⟩ = some (.slice (some ⟨rb, ro, none⟩) q rc) ∧ u.cell? ⟨rb, ro, none⟩ = some (.int .i64 x)) ∧ Below V.heap.size V u)) (by kernel_rfl) s0 (fun hHeld => ?_)
          refine wpAnyH_take (i := 0) (v := ?vvSC0) rfl (by kernel_rfl) (by kernel_rfl) (by kernel_rfl) (fun _ _ _ h => h) (Or.inl ⟨by rfl, ?hySC0⟩) (by assumption) ?restSC0
          case hySC0 => (intro w hSw; (try dsimp only at hSw); (try simp only [List.getElem_toArray, List.getElem_cons_zero]); go_simp <;> with_reducible rfl)
          try simp only [Act.put, List.getElem_toArray, List.getElem_cons_zero, List.setIfInBounds_toArray, List.set_cons_zero, List.set_cons_succ]
          refine wpAnyH_take (i := 1) (v := ?vvSC1) rfl (by kernel_rfl) (by kernel_rfl) (by kernel_rfl) (fun _ _ _ h => h) (Or.inl ⟨by rfl, ?hySC1⟩) (by assumption) ?restSC1
          case hySC1 => (intro w hSw; (try dsimp only at hSw); (try simp only [List.getElem_toArray, List.getElem_cons_zero, List.getElem_cons_succ]); go_simp <;> with_reducible rfl)
          try simp only [Act.put, List.getElem_toArray, List.getElem_cons_zero, List.getElem_cons_succ, List.setIfInBounds_toArray, List.set_cons_zero, List.set_cons_succ]
          refine wpAnyH_ready (rs := [2]) (by kernel_rfl) (by simp) ?_
          refine AllReadyH.cons rfl (fun K hK => ?_) AllReadyH.nil
          try simp only [List.getElem_toArray, List.getElem_cons_zero, List.getElem_cons_succ]
          go_simp
          go_at_call 27
          refine (show Calls _ _ _ _ _ from CT2.out _ (by first | assumption | exact And.right (by assumption))).mono ?_
          rintro e u1 ⟨rfl, hb1⟩
          have hB1 := keep_reg HS.out (by first | assumption | exact And.right (by assumption)) hb1
          go_wp2_with fail
          refine hK.out _ _ hB1 (fun hHeld1 => ?_)
          clear hK
          try simp only [Act.put, List.getElem_toArray, List.getElem_cons_zero, List.getElem_cons_succ, List.setIfInBounds_toArray, List.set_cons_zero, List.set_cons_succ]
          refine wpAnyH_take (i := 3) (v := ?vvSC3) rfl (by kernel_rfl) (by kernel_rfl) (by kernel_rfl) (fun _ _ _ h => h) (Or.inl ⟨by rfl, ?hySC3⟩) (by assumption) ?restSC3
          case hySC3 => (intro w hSw; (try dsimp only at hSw); (try simp only [List.getElem_toArray, List.getElem_cons_zero, List.getElem_cons_succ]); go_simp <;> with_reducible rfl)
          try simp only [Act.put, List.getElem_toArray, List.getElem_cons_zero, List.getElem_cons_succ, List.setIfInBounds_toArray, List.set_cons_zero, List.set_cons_succ]
          refine wpAnyH_take (i := 4) (v := ?vvSC4) rfl (by kernel_rfl) (by kernel_rfl) (by kernel_rfl) (fun _ _ _ h => h) (Or.inl ⟨by rfl, ?hySC4⟩) (by assumption) ?restSC4
          case hySC4 => (intro w hSw; (try dsimp only at hSw); (try simp only [List.getElem_toArray, List.getElem_cons_zero, List.getElem_cons_succ]); go_simp <;> with_reducible rfl)
          try simp only [Act.put, List.getElem_toArray, List.getElem_cons_zero, List.getElem_cons_succ, List.setIfInBounds_toArray, List.set_cons_zero, List.set_cons_succ]
          refine wpAnyH_take (i := 5) (v := ?vvSC5) rfl (by kernel_rfl) (by kernel_rfl) (by kernel_rfl) (fun _ _ _ h => h) (Or.inl ⟨by rfl, ?hySC5⟩) (by assumption) ?restSC5
          case hySC5 => (intro w hSw; (try dsimp only at hSw); (try simp only [List.getElem_toArray, List.getElem_cons_zero, List.getElem_cons_succ]); go_simp <;> with_reducible rfl)
          try simp only [Act.put, List.getElem_toArray, List.getElem_cons_zero, List.getElem_cons_succ, List.setIfInBounds_toArray, List.set_cons_zero, List.set_cons_succ]
          refine wpAnyH_ready (rs := [6]) (by kernel_rfl) (by simp) ?_
          refine AllReadyH.cons rfl (fun K hK => ?_) AllReadyH.nil
          try simp only [List.getElem_toArray, List.getElem_cons_zero, List.getElem_cons_succ]
          go_simp
          go_at_call 28
          refine (show Calls _ _ _ _ _ from CZ2.out _ (by first | assumption | exact And.right (by assumption))).mono ?_
          rintro e u2 ⟨rfl, hb2⟩
          have hB2 := keep_reg HS.out (by first | assumption | exact And.right (by assumption)) hb2
          go_wp2_with fail
          refine hK.out _ _ hB2 (fun hHeld2 => ?_)
          clear hK
          try simp only [Act.put, List.getElem_toArray, List.getElem_cons_zero, List.getElem_cons_succ, List.setIfInBounds_toArray, List.set_cons_zero, List.set_cons_succ]
          refine wpAnyH_take (i := 7) (v := ?vvSC7) rfl (by kernel_rfl) (by kernel_rfl) (by kernel_rfl) (fun _ _ _ h => h) (Or.inl ⟨by rfl, ?hySC7⟩) (by assumption) ?restSC7
          case hySC7 => (intro w hSw; (try dsimp only at hSw); (try simp only [List.getElem_toArray, List.getElem_cons_zero, List.getElem_cons_succ]); go_simp <;> with_reducible rfl)
          try simp only [Act.put, List.getElem_toArray, List.getElem_cons_zero, List.getElem_cons_succ, List.setIfInBounds_toArray, List.set_cons_zero, List.set_cons_succ]
          refine wpAnyH_take (i := 8) (v := ?vvSC8) rfl (by kernel_rfl) (by kernel_rfl) (by kernel_rfl) (fun _ _ _ h => h) (Or.inl ⟨by rfl, ?hySC8⟩) (by assumption) ?restSC8
          case hySC8 => (intro w hSw; (try dsimp only at hSw); (try simp only [List.getElem_toArray, List.getElem_cons_zero, List.getElem_cons_succ]); go_simp <;> with_reducible rfl)
          try simp only [Act.put, List.getElem_toArray, List.getElem_cons_zero, List.getElem_cons_succ, List.setIfInBounds_toArray, List.set_cons_zero, List.set_cons_succ]
          refine wpAnyH_take (i := 9) (v := ?vvSC9) rfl (by kernel_rfl) (by kernel_rfl) (by kernel_rfl) (fun _ _ _ h => h) (Or.inl ⟨by rfl, ?hySC9⟩) (by assumption) ?restSC9
          case hySC9 => (intro w hSw; (try dsimp only at hSw); (try simp only [List.getElem_toArray, List.getElem_cons_zero, List.getElem_cons_succ]); go_simp <;> with_reducible rfl)
          try simp only [Act.put, List.getElem_toArray, List.getElem_cons_zero, List.getElem_cons_succ, List.setIfInBounds_toArray, List.set_cons_zero, List.set_cons_succ]
          refine wpAnyH_take (i := 10) (v := ?vvSC10) rfl (by kernel_rfl) (by kernel_rfl) (by kernel_rfl) (fun _ _ _ h => h) (Or.inl ⟨by rfl, ?hySC10⟩) (by assumption) ?restSC10
          case hySC10 => (intro w hSw; (try dsimp only at hSw); (try simp only [List.getElem_toArray, List.getElem_cons_zero, List.getElem_cons_succ]); go_simp <;> with_reducible rfl)
          try simp only [Act.put, List.getElem_toArray, List.getElem_cons_zero, List.getElem_cons_succ, List.setIfInBounds_toArray, List.set_cons_zero, List.set_cons_succ]
          refine wpAnyH_take (i := 11) (v := ?vvSC11) rfl (by kernel_rfl) (by kernel_rfl) (by kernel_rfl) (fun _ _ _ h => h) (Or.inl ⟨by rfl, ?hySC11⟩) (by assumption) ?restSC11
          case hySC11 => (intro w hSw; (try dsimp only at hSw); (try simp only [List.getElem_toArray, List.getElem_cons_zero, List.getElem_cons_succ]); go_simp <;> with_reducible rfl)
          try simp only [Act.put, List.getElem_toArray, List.getElem_cons_zero, List.getElem_cons_succ, List.setIfInBounds_toArray, List.set_cons_zero, List.set_cons_succ]
          refine wpAnyH_take (i := 12) (v := ?vvSC12) rfl (by kernel_rfl) (by kernel_rfl) (by kernel_rfl) (fun _ _ _ h => h) (Or.inl ⟨by rfl, ?hySC12⟩) (by assumption) ?restSC12
          case hySC12 => (intro w hSw; (try dsimp only at hSw); (try simp only [List.getElem_toArray, List.getElem_cons_zero, List.getElem_cons_succ]); go_simp <;> with_reducible rfl)
          try simp only [Act.put, List.getElem_toArray, List.getElem_cons_zero, List.getElem_cons_succ, List.setIfInBounds_toArray, List.set_cons_zero, List.set_cons_succ]
          refine wpAnyH_take (i := 13) (v := ?vvSC13) rfl (by kernel_rfl) (by kernel_rfl) (by kernel_rfl) (fun _ _ _ h => h) (Or.inl ⟨by rfl, ?hySC13⟩) (by assumption) ?restSC13
          case hySC13 => (intro w hSw; (try dsimp only at hSw); (try simp only [List.getElem_toArray, List.getElem_cons_zero, List.getElem_cons_succ]); go_simp <;> with_reducible rfl)
          try simp only [Act.put, List.getElem_toArray, List.getElem_cons_zero, List.getElem_cons_succ, List.setIfInBounds_toArray, List.set_cons_zero, List.set_cons_succ]
          refine wpAnyH_take (i := 14) (v := ?vvSC14) rfl (by kernel_rfl) (by kernel_rfl) (by kernel_rfl) (fun _ _ _ h => h) (Or.inl ⟨by rfl, ?hySC14⟩) (by assumption) ?restSC14
          case hySC14 => (intro w hSw; (try dsimp only at hSw); (try simp only [List.getElem_toArray, List.getElem_cons_zero, List.getElem_cons_succ]); go_simp <;> with_reducible rfl)
          try simp only [Act.put, List.getElem_toArray, List.getElem_cons_zero, List.getElem_cons_succ, List.setIfInBounds_toArray, List.set_cons_zero, List.set_cons_succ]
          refine wpAnyH_take (i := 15) (v := ?vvSC15) rfl (by kernel_rfl) (by kernel_rfl) (by kernel_rfl) (fun _ _ _ h => h) (Or.inl ⟨by rfl, ?hySC15⟩) (by assumption) ?restSC15
          case hySC15 => (intro w hSw; (try dsimp only at hSw); (try simp only [List.getElem_toArray, List.getElem_cons_zero, List.getElem_cons_succ]); go_simp <;> with_reducible rfl)
          try simp only [Act.put, List.getElem_toArray, List.getElem_cons_zero, List.getElem_cons_succ, List.setIfInBounds_toArray, List.set_cons_zero, List.set_cons_succ]
          refine wpAnyH_ready (rs := [16]) (by kernel_rfl) (by simp) ?_
          refine AllReadyH.cons rfl (fun K hK => ?_) AllReadyH.nil
          try simp only [List.getElem_toArray, List.getElem_cons_zero, List.getElem_cons_succ]
          go_simp
          go_at_call 38
          refine (show Calls _ _ _ _ _ from CM2.out _ (by first | assumption | exact And.right (by assumption))).mono ?_
          rintro e u3 ⟨t, rfl, htl, hta, hb3⟩
          have CS := Lib.hid (CSUM.out t u3 hta htl)
          clear htl hta
          have hB3 := keep_reg HS.out (by first | assumption | exact And.right (by assumption)) hb3
          go_wp2_with fail
          refine hK.out _ _ hB3 (fun hHeld3 => ?_)
          clear hK
          try simp only [Act.put, List.getElem_toArray, List.getElem_cons_zero, List.getElem_cons_succ, List.setIfInBounds_toArray, List.set_cons_zero, List.set_cons_succ]
          refine wpAnyH_ready (rs := [17]) (by kernel_rfl) (by simp) ?_
          refine AllReadyH.cons rfl (fun K hK => ?_) AllReadyH.nil
          try simp only [List.getElem_toArray, List.getElem_cons_zero, List.getElem_cons_succ]
          go_simp
          go_at_call 37
          refine (show Calls _ _ _ _ _ from CS.out).mono ?_
          rintro e u4 ⟨rfl, hb4⟩
          have hB4 := keep_reg HS.out (by first | assumption | exact And.right (by assumption)) hb4
          go_wp2_with fail
          refine hK.out _ _ hB4 (fun hHeld4 => ?_)
          clear hK
          try simp only [Act.put, List.getElem_toArray, List.getElem_cons_zero, List.getElem_cons_succ, List.setIfInBounds_toArray, List.set_cons_zero, List.set_cons_succ]
          refine wpAnyH_take (i := 18) (v := ?vvSC18) rfl (by kernel_rfl) (by kernel_rfl) (by kernel_rfl) (fun _ _ _ h => h) (Or.inl ⟨by rfl, ?hySC18⟩) (by assumption) ?restSC18
          case hySC18 => (intro w hSw; (try dsimp only at hSw); (try simp only [List.getElem_toArray, List.getElem_cons_zero, List.getElem_cons_succ]); go_simp <;> with_reducible rfl)
          try simp only [Act.put, List.getElem_toArray, List.getElem_cons_zero, List.getElem_cons_succ, List.setIfInBounds_toArray, List.set_cons_zero, List.set_cons_succ]
          refine wpAnyH_take (i := 19) (v := ?vvSC19) rfl (by kernel_rfl) (by kernel_rfl) (by kernel_rfl) (fun _ _ _ h => h) (Or.inl ⟨by rfl, ?hySC19⟩) (by assumption) ?restSC19
          case hySC19 => (intro w hSw; (try dsimp only at hSw); (try simp only [List.getElem_toArray, List.getElem_cons_zero, List.getElem_cons_succ]); go_simp <;> with_reducible rfl)
          try simp only [Act.put, List.getElem_toArray, List.getElem_cons_zero, List.getElem_cons_succ, List.setIfInBounds_toArray, List.set_cons_zero, List.set_cons_succ]
          refine wpAnyH_take (i := 20) (v := ?vvSC20) rfl (by kernel_rfl) (by kernel_rfl) (by kernel_rfl) (fun _ _ _ h => h) (Or.inl ⟨by rfl, ?hySC20⟩) (by assumption) ?restSC20
          case hySC20 => (intro w hSw; (try dsimp only at hSw); (try simp only [List.getElem_toArray, List.getElem_cons_zero, List.getElem_cons_succ]); go_simp <;> with_reducible rfl)
          try simp only [Act.put, List.getElem_toArray, List.getElem_cons_zero, List.getElem_cons_succ, List.setIfInBounds_toArray, List.set_cons_zero, List.set_cons_succ]
          refine wpAnyH_take (i := 21) (v := ?vvSC21) rfl (by kernel_rfl) (by kernel_rfl) (by kernel_rfl) (fun _ _ _ h => h) (Or.inl ⟨by rfl, ?hySC21⟩) (by assumption) ?restSC21
          case hySC21 => (intro w hSw; (try dsimp only at hSw); (try simp only [List.getElem_toArray, List.getElem_cons_zero, List.getElem_cons_succ]); go_simp <;> with_reducible rfl)
          try simp only [Act.put, List.getElem_toArray, List.getElem_cons_zero, List.getElem_cons_succ, List.setIfInBounds_toArray, List.set_cons_zero, List.set_cons_succ]
          refine wpAnyH_done (by kernel_rfl) ?_ _
          refine at_exit (W := V) (by first | assumption | exact And.right (by assumption)) ?_
          intro V8 hb8
          have HF8 := Lib.hid (HW2.out.trans (hb8.mono HW2.out.size))
          clear s0 hb8 hHeld hHeld1 hB1 hb1 hHeld2 hB2 hb2 hHeld3 hB3 hb3 hHeld4 hB4 hb4
          go_wp2
          go_ret2
          exact ⟨by rw [HV.out]; rfl, HF8.out⟩

theorem planProof_pair (S : Sea) (P T : Tab) (_ : S.Small) (_ : P.Small) (_ : T.Small) : ∃ v b : Bool,
    (∀ (G : Sea) (Q U : Tab) (W : World), G.At W → Q.At W → U.At W → G.Like S → Q.con = P.con → U.con = T.con → Calls Try.prog 15 #[.agg #[.slice G.o.a G.o.l.length G.o.c, .slice G.x.a G.x.l.length G.x.c, .slice G.k.a G.k.l.length G.k.c, .slice G.r.a G.r.T.length G.r.c], .slice Q.a Q.R.length Q.c, .slice U.a U.R.length U.c] W (PBool2 v b W)) ∧
    (∀ (G : Sea) (Q U : Tab) (W : World), G.At W → Q.At W → U.At W → G.Like S → Q.con = P.con → U.con = T.con → Calls Try.prog 16 #[.agg #[.slice G.o.a G.o.l.length G.o.c, .slice G.x.a G.x.l.length G.x.c, .slice G.k.a G.k.l.length G.k.c, .slice G.r.a G.r.T.length G.r.c], .slice Q.a Q.R.length Q.c, .slice U.a U.R.length U.c] W (PBool2 v b W)) := by
  obtain ⟨v, b, h⟩ := pProof_some S P T
  exact ⟨v, b, fun G Q U W hG hQ hU hl e1 e2 => specProof_any G Q U W hG hQ hU v b (pProof_like h hl e1 e2), fun G Q U W hG hQ hU hl e1 e2 => implProof_any G Q U W hG hQ hU v b (pProof_like h hl e1 e2)⟩
end Go.Proofs.Ytifgmbljimfebaa
