/- PlanMoves and PlanCost, on both sides. Condition: Season and table read as such. -/
import Derived.Test.YtnkigfopejbcpaaPlanWalk
namespace Go.Proofs.Ytnkigfopejbcpaa
open Go.RowKit Go.Shelf

/-- What PlanMoves answers. -/
def PMoves (S : Sea) (P : Tab) (l : List Int) (b : Bool) : Prop :=
  ((S.good && planB S.o.l.length S.r.con P.con) = false ∧ l = [] ∧ b = false) ∨ (S.good = true ∧ planB S.o.l.length S.r.con P.con = true ∧ l = movesL S.o.l S.x.l S.k.l S.r.con P.con ∧ b = true)
theorem pMoves_some (S : Sea) (P : Tab) : ∃ l b, PMoves S P l b ∧ l.length ≤ 5 ∧ (∀ x ∈ l, 0 ≤ x ∧ x ≤ 1980) := by
  cases h : (S.good && planB S.o.l.length S.r.con P.con) with
  | false => exact ⟨[], false, .inl ⟨h, rfl, rfl⟩, by simp, by simp⟩
  | true =>
    rw [Bool.and_eq_true] at h
    refine ⟨_, true, .inr ⟨h.1, h.2, rfl, rfl⟩, ?_, movesTo_bound h.1 h.2 (Nat.le_refl _)⟩
    have := plan_len h.1 h.2
    unfold movesL; rw [movesTo_len]; exact this
theorem pMoves_like {S G : Sea} {P Q : Tab} {l : List Int} {b : Bool} (h : PMoves S P l b) (hl : G.Like S) (hq : Q.con = P.con) : PMoves G Q l b := by
  unfold PMoves at h ⊢
  rw [hl.good, hl.1, hl.2.1, hl.2.2.1, hl.2.2.2, hq]; exact h

set_option maxRecDepth 16000 in
set_option maxHeartbeats 1500000 in
theorem specMoves_any (S : Sea) (P : Tab) (w : World) (hS : S.At w) (hP : P.At w) (l : List Int) (b : Bool) (hv : PMoves S P l b) :
    Calls Try.prog 24 #[.agg #[.slice S.o.a S.o.l.length S.o.c, .slice S.x.a S.x.l.length S.x.c, .slice S.k.a S.k.l.length S.k.c, .slice S.r.a S.r.T.length S.r.c], .slice P.a P.R.length P.c] w (PInts l b w) := by
  unfold PInts
  obtain ⟨wA, hA, hbA, bx, hSA, hszA⟩ := laid_sea S w 28 hS
  have x0 := bx.c0
  have x1 := bx.c1
  have x2 := bx.c2
  have x3 := bx.c3
  rw [hA] at x0 x1 x2 x3
  have HA := Lib.hid hA
  have HH : Hid (∀ u, Below wA.heap.size wA u → SeaTab S P w.heap.size 0 u) := Lib.hid fun u hu => ⟨bx.on hu, hSA.on hu, (hP.on hbA).on hu⟩
  obtain ⟨g0, hg0⟩ : ∃ g, g = S.good := ⟨_, rfl⟩
  obtain ⟨g1, hg1⟩ : ∃ g, g = planB S.o.l.length S.r.con P.con := ⟨_, rfl⟩
  have CG := Lib.hid (by have := l10Good_any S wA hSA; rw [← hg0] at this; exact this)
  have CP : Hid (∀ u, Below wA.heap.size wA u → Calls Try.prog 37 #[.agg #[.slice S.o.a S.o.l.length S.o.c, .slice S.x.a S.x.l.length S.x.c, .slice S.k.a S.k.l.length S.k.c, .slice S.r.a S.r.T.length S.r.c], .slice P.a P.R.length P.c] u fun e w' => e = .returned (.bool g1) ∧ Below u.heap.size u w') := Lib.hid fun u hu => by rw [hg1]; exact l10Plan_any S P u (HH.out u hu).sea (HH.out u hu).tab
  have HBA := Lib.hid hbA
  have HF : Hid ((g0 && g1) = false → l = [] ∧ b = false) := Lib.hid fun e => by
    rcases hv with h | ⟨h1, h2, _⟩
    · exact h.2
    · rw [hg0, hg1, h1, h2] at e; cases e
  have HT : Hid ((g0 && g1) = true → S.good = true ∧ planB S.o.l.length S.r.con P.con = true ∧ l = movesL S.o.l S.x.l S.k.l S.r.con P.con ∧ b = true) := Lib.hid fun e => by
    rcases hv with h | h
    · have := h.1; rw [← hg0, ← hg1, e] at this; cases this
    · exact h
  clear hS hP hA bx hSA hg0 hg1 hv hbA
  go_enter Try.func24, Try.ntmps24
  go_wp2_with fail
  rw [← HA.out]
  refine (show Calls _ _ _ _ _ from CG.out).mono ?_
  rintro e W1 ⟨rfl, hb1⟩
  have HB1 := Lib.hid hb1
  have HW1 := Lib.hid (HBA.out.trans (hb1.mono HBA.out.size))
  clear x0 x1 x2 x3 hb1
  cases g0 with
  | false =>
    obtain ⟨rfl, rfl⟩ := HF.out rfl
    have H0 := Lib.hid (empty_own W1)
    have HE := Lib.hid (below_alloc W1 (.cells #[] 3))
    go_wp2
    go_ret2
    obtain ⟨t, ht, htl, hto, hti⟩ := row_of_own (l := []) H0.out
    exact ⟨t, congrArg (fun v => Ending.returned (.tuple #[v, .bool false])) ht, htl, hto, hti.wide HW1.out.size (Nat.le_refl _), HW1.out.trans (HE.out.mono HW1.out.size)⟩
  | true =>
    have b1 := (HH.out W1 HB1.out).box
    have y0 := b1.c0
    have y1 := b1.c1
    have y2 := b1.c2
    have y3 := b1.c3
    have CP1 := Lib.hid (CP.out W1 HB1.out)
    clear b1
    go_wp2_with fail
    refine (show Calls _ _ _ _ _ from CP1.out).mono ?_
    rintro e W2 ⟨rfl, hb2⟩
    have HB2 := Lib.hid (HB1.out.trans (hb2.mono HB1.out.size))
    have HW2 := Lib.hid (HW1.out.trans (hb2.mono HW1.out.size))
    clear y0 y1 y2 y3 hb2
    cases g1 with
    | false =>
      obtain ⟨rfl, rfl⟩ := HF.out rfl
      have H0 := Lib.hid (empty_own W2)
      have HE := Lib.hid (below_alloc W2 (.cells #[] 3))
      go_wp2
      go_ret2
      obtain ⟨t, ht, htl, hto, hti⟩ := row_of_own (l := []) H0.out
      exact ⟨t, congrArg (fun v => Ending.returned (.tuple #[v, .bool false])) ht, htl, hto, hti.wide HW2.out.size (Nat.le_refl _), HW2.out.trans (HE.out.mono HW2.out.size)⟩
    | true =>
      obtain ⟨hg, hp, rfl, rfl⟩ := HT.out rfl
      have b1 := (HH.out W2 HB2.out).box
      have y0 := b1.c0
      have y1 := b1.c1
      have y2 := b1.c2
      have y3 := b1.c3
      have CM := Lib.hid (l10Moves_any S P W2 (HH.out W2 HB2.out).sea (HH.out W2 HB2.out).tab hg hp)
      clear b1 hg hp
      go_wp2_with fail
      refine (show Calls _ _ _ _ _ from CM.out).mono ?_
      rintro e W3 ⟨t, rfl, htl, hto, hti, hb3⟩
      have HTL := Lib.hid htl
      have HTO := Lib.hid hto
      have HTI := Lib.hid hti
      have HB3 := Lib.hid hb3
      clear htl hto hti hb3
      go_wp2
      go_ret2
      exact ⟨t, rfl, HTL.out, HTO.out, HTI.out.wide HW2.out.size (Nat.le_refl _), HW2.out.trans (HB3.out.mono HW2.out.size)⟩

theorem planMoves_pair (S : Sea) (P : Tab) (_ : S.Small) (_ : P.Small) : ∃ (l : List Int) (b : Bool), l.length ≤ 1048576 ∧
    (∀ (G : Sea) (Q : Tab) (W : World), G.At W → Q.At W → G.Like S → Q.con = P.con → Calls Try.prog 24 #[.agg #[.slice G.o.a G.o.l.length G.o.c, .slice G.x.a G.x.l.length G.x.c, .slice G.k.a G.k.l.length G.k.c, .slice G.r.a G.r.T.length G.r.c], .slice Q.a Q.R.length Q.c] W (PInts l b W)) ∧
    (∀ (G : Sea) (Q : Tab) (W : World), G.At W → Q.At W → G.Like S → Q.con = P.con → Calls Try.prog 25 #[.agg #[.slice G.o.a G.o.l.length G.o.c, .slice G.x.a G.x.l.length G.x.c, .slice G.k.a G.k.l.length G.k.c, .slice G.r.a G.r.T.length G.r.c], .slice Q.a Q.R.length Q.c] W (PInts l b W)) := by
  obtain ⟨l, b, h, h5, _⟩ := pMoves_some S P
  exact ⟨l, b, by omega, fun G Q W hG hQ hl hq => specMoves_any G Q W hG hQ l b (pMoves_like h hl hq), fun G Q W hG hQ hl hq => implMoves_any G Q W hG hQ l b (pMoves_like h hl hq)⟩

set_option maxRecDepth 16000 in
set_option maxHeartbeats 1500000 in
theorem implPlanCost_any (S : Sea) (P : Tab) (w : World) (hS : S.At w) (hP : P.At w) (l : List Int) (b : Bool) (hv : PMoves S P l b) (h5 : l.length ≤ 5) (hb : ∀ x ∈ l, 0 ≤ x ∧ x ≤ 1980) :
    Calls Try.prog 23 #[.agg #[.slice S.o.a S.o.l.length S.o.c, .slice S.x.a S.x.l.length S.x.c, .slice S.k.a S.k.l.length S.k.c, .slice S.r.a S.r.T.length S.r.c], .slice P.a P.R.length P.c] w (PInt l.sum b w) := by
  unfold PInt
  obtain ⟨wA, hA, hbA, bx, hSA, hszA⟩ := laid_sea S w 28 hS
  have x0 := bx.c0
  have x1 := bx.c1
  have x2 := bx.c2
  have x3 := bx.c3
  rw [hA] at x0 x1 x2 x3
  have HA := Lib.hid hA
  have CM := Lib.hid (show Calls _ _ _ _ (PInts l b wA) from implMoves_any S P wA hSA (hP.on hbA) l b hv)
  have HBA := Lib.hid hbA
  have HL := Lib.hid h5
  have HB := Lib.hid hb
  clear hS hP hA bx hSA hv h5 hb hbA
  go_enter Try.func23, Try.ntmps23
  go_wp2_with fail
  rw [← HA.out]
  refine (show Calls _ _ _ _ _ from CM.out).mono ?_
  rintro e W1 ⟨t, rfl, htl, -, hti, hb1⟩
  have CS := Lib.hid (by have := sumM_any t W1 hti.at (by rw [htl]; exact HB.out) (by rw [htl]; exact HL.out); rw [htl] at this; exact this)
  have HTL : Hid (t.l.length = l.length) := Lib.hid (by rw [htl])
  have HW1 := Lib.hid (HBA.out.trans (hb1.mono HBA.out.size))
  rw [HTL.out]
  clear x0 x1 x2 x3 hb1 htl hti
  go_wp2_with fail
  refine (show Calls _ _ _ _ _ from CS.out).mono ?_
  rintro e W2 ⟨rfl, rfl⟩
  go_wp2
  go_ret2
  exact ⟨rfl, HW1.out⟩

set_option maxRecDepth 16000 in
set_option maxHeartbeats 1500000 in
theorem specPlanCost_any (S : Sea) (P : Tab) (w : World) (hS : S.At w) (hP : P.At w) (l : List Int) (b : Bool) (hv : PMoves S P l b) (h5 : l.length ≤ 5) (hb : ∀ x ∈ l, 0 ≤ x ∧ x ≤ 1980) :
    Calls Try.prog 22 #[.agg #[.slice S.o.a S.o.l.length S.o.c, .slice S.x.a S.x.l.length S.x.c, .slice S.k.a S.k.l.length S.k.c, .slice S.r.a S.r.T.length S.r.c], .slice P.a P.R.length P.c] w (PInt l.sum b w) := by
  unfold PInt
  obtain ⟨wA, hA, hbA, bx, hSA, hszA⟩ := laid_sea S w 28 hS
  have x0 := bx.c0
  have x1 := bx.c1
  have x2 := bx.c2
  have x3 := bx.c3
  rw [hA] at x0 x1 x2 x3
  have HA := Lib.hid hA
  have HH : Hid (∀ u, Below wA.heap.size wA u → SeaTab S P w.heap.size 0 u) := Lib.hid fun u hu => ⟨bx.on hu, hSA.on hu, (hP.on hbA).on hu⟩
  obtain ⟨g0, hg0⟩ : ∃ g, g = S.good := ⟨_, rfl⟩
  obtain ⟨g1, hg1⟩ : ∃ g, g = planB S.o.l.length S.r.con P.con := ⟨_, rfl⟩
  have CG := Lib.hid (by have := l10Good_any S wA hSA; rw [← hg0] at this; exact this)
  have CP : Hid (∀ u, Below wA.heap.size wA u → Calls Try.prog 37 #[.agg #[.slice S.o.a S.o.l.length S.o.c, .slice S.x.a S.x.l.length S.x.c, .slice S.k.a S.k.l.length S.k.c, .slice S.r.a S.r.T.length S.r.c], .slice P.a P.R.length P.c] u fun e w' => e = .returned (.bool g1) ∧ Below u.heap.size u w') := Lib.hid fun u hu => by rw [hg1]; exact l10Plan_any S P u (HH.out u hu).sea (HH.out u hu).tab
  have HBA := Lib.hid hbA
  have HF : Hid ((g0 && g1) = false → l.sum = 0 ∧ b = false) := Lib.hid fun e => by
    rcases hv with ⟨_, h, h'⟩ | ⟨h1, h2, _⟩
    · rw [h]; exact ⟨rfl, h'⟩
    · rw [hg0, hg1, h1, h2] at e; cases e
  have HT : Hid ((g0 && g1) = true → S.good = true ∧ planB S.o.l.length S.r.con P.con = true ∧ l = movesL S.o.l S.x.l S.k.l S.r.con P.con ∧ b = true) := Lib.hid fun e => by
    rcases hv with h | h
    · have := h.1; rw [← hg0, ← hg1, e] at this; cases this
    · exact h
  have HL := Lib.hid h5
  have HB := Lib.hid hb
  obtain ⟨z, hz⟩ : ∃ z, z = l.sum := ⟨_, rfl⟩
  have HZ := Lib.hid hz
  rw [← hz] at HF ⊢
  clear hS hP hA bx hSA hg0 hg1 hv hbA h5 hb hz
  go_enter Try.func22, Try.ntmps22
  go_wp2_with fail
  rw [← HA.out]
  refine (show Calls _ _ _ _ _ from CG.out).mono ?_
  rintro e W1 ⟨rfl, hb1⟩
  have HB1 := Lib.hid hb1
  have HW1 := Lib.hid (HBA.out.trans (hb1.mono HBA.out.size))
  clear x0 x1 x2 x3 hb1
  cases g0 with
  | false =>
    obtain ⟨rfl, rfl⟩ := HF.out rfl
    go_wp2
    go_ret2
    exact ⟨rfl, HW1.out⟩
  | true =>
    have b1 := (HH.out W1 HB1.out).box
    have y0 := b1.c0
    have y1 := b1.c1
    have y2 := b1.c2
    have y3 := b1.c3
    have CP1 := Lib.hid (CP.out W1 HB1.out)
    clear b1
    go_wp2_with fail
    refine (show Calls _ _ _ _ _ from CP1.out).mono ?_
    rintro e W2 ⟨rfl, hb2⟩
    have HB2 := Lib.hid (HB1.out.trans (hb2.mono HB1.out.size))
    have HW2 := Lib.hid (HW1.out.trans (hb2.mono HW1.out.size))
    clear y0 y1 y2 y3 hb2
    cases g1 with
    | false =>
      obtain ⟨rfl, rfl⟩ := HF.out rfl
      go_wp2
      go_ret2
      exact ⟨rfl, HW2.out⟩
    | true =>
      obtain ⟨hg, hp, hl, rfl⟩ := HT.out rfl
      have HL1 := Lib.hid hl
      have b1 := (HH.out W2 HB2.out).box
      have y0 := b1.c0
      have y1 := b1.c1
      have y2 := b1.c2
      have y3 := b1.c3
      have CM := Lib.hid (l10Moves_any S P W2 (HH.out W2 HB2.out).sea (HH.out W2 HB2.out).tab hg hp)
      clear b1 hg hp hl
      go_wp2_with fail
      refine (show Calls _ _ _ _ _ from CM.out).mono ?_
      rintro e W3 ⟨t, rfl, htl, -, hti, hb3⟩
      have CS : Hid (Calls Try.prog 45 #[.slice t.a t.l.length t.c] W3 fun e w' => e = .returned (.int .i64 z) ∧ w' = W3) := Lib.hid (by
        have e1 : t.l = l := htl.trans HL1.out.symm
        have := l10Sum_any t W3 hti.at (by rw [e1]; exact HB.out) (by rw [e1]; exact HL.out)
        rw [HZ.out, ← e1]; exact this)
      have HB3 := Lib.hid (HW2.out.trans (hb3.mono HW2.out.size))
      clear y0 y1 y2 y3 htl hti hb3
      go_wp2_with fail
      refine (show Calls _ _ _ _ _ from CS.out).mono ?_
      rintro e W4 ⟨rfl, rfl⟩
      go_wp2
      go_ret2
      exact ⟨rfl, HB3.out⟩

theorem planCost_pair (S : Sea) (P : Tab) (_ : S.Small) (_ : P.Small) : ∃ (v : Int) (b : Bool),
    (∀ (G : Sea) (Q : Tab) (W : World), G.At W → Q.At W → G.Like S → Q.con = P.con → Calls Try.prog 22 #[.agg #[.slice G.o.a G.o.l.length G.o.c, .slice G.x.a G.x.l.length G.x.c, .slice G.k.a G.k.l.length G.k.c, .slice G.r.a G.r.T.length G.r.c], .slice Q.a Q.R.length Q.c] W (PInt v b W)) ∧
    (∀ (G : Sea) (Q : Tab) (W : World), G.At W → Q.At W → G.Like S → Q.con = P.con → Calls Try.prog 23 #[.agg #[.slice G.o.a G.o.l.length G.o.c, .slice G.x.a G.x.l.length G.x.c, .slice G.k.a G.k.l.length G.k.c, .slice G.r.a G.r.T.length G.r.c], .slice Q.a Q.R.length Q.c] W (PInt v b W)) := by
  obtain ⟨l, b, h, h5, hb⟩ := pMoves_some S P
  exact ⟨l.sum, b, fun G Q W hG hQ hl hq => specPlanCost_any G Q W hG hQ l b (pMoves_like h hl hq) h5 hb, fun G Q W hG hQ hl hq => implPlanCost_any G Q W hG hQ l b (pMoves_like h hl hq) h5 hb⟩
end Go.Proofs.Ytnkigfopejbcpaa
