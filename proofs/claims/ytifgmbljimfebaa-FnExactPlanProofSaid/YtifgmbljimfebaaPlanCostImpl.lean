/- PlanCost on the program's side. -/
import Derived.Test.YtifgmbljimfebaaPairArePotentials
namespace Go.Proofs.Ytifgmbljimfebaa
open Go.RowKit Go.Shelf

/-- What PlanMoves answers. -/
def PMoves (S : Sea) (P : Tab) (l : List Int) (b : Bool) : Prop :=
  ((S.good && planB S.o.l.length S.r.con P.con) = false ∧ l = [] ∧ b = false) ∨ (S.good = true ∧ planB S.o.l.length S.r.con P.con = true ∧ l = movesL S.o.l S.x.l S.k.l S.r.con P.con ∧ b = true)
theorem pMoves_some (S : Sea) (P : Tab) : ∃ l b, PMoves S P l b ∧ l.length ≤ 5 ∧ (∀ x ∈ l, 0 ≤ x ∧ x ≤ 1980) := by
  cases h : (S.good && planB S.o.l.length S.r.con P.con) with
  | false => exact ⟨[], false, .inl ⟨h, rfl, rfl⟩, by simp, by simp⟩
  | true =>
    rw [Bool.and_eq_true] at h
    refine ⟨_, true, .inr ⟨h.1, h.2, rfl, rfl⟩, ?_, movesTo_bound h.1 h.2 (Nat.le_refl _)⟩
    have := plan_len h.1 h.2
    unfold movesL; rw [movesTo_len]; exact this
theorem pMoves_like {S G : Sea} {P Q : Tab} {l : List Int} {b : Bool} (h : PMoves S P l b) (hl : G.Like S) (hq : Q.con = P.con) : PMoves G Q l b := by
  unfold PMoves at h ⊢
  rw [hl.good, hl.1, hl.2.1, hl.2.2.1, hl.2.2.2, hq]; exact h

set_option maxRecDepth 32000 in
set_option maxHeartbeats 1500000 in
theorem implPlanCost_any (S : Sea) (P : Tab) (w : World) (hS : S.At w) (hP : P.At w) (l : List Int) (b : Bool) (hv : PMoves S P l b) (h5 : l.length ≤ 5) (hb : ∀ x ∈ l, 0 ≤ x ∧ x ≤ 1980) :
    Calls Try.prog 39 #[.agg #[.slice S.o.a S.o.l.length S.o.c, .slice S.x.a S.x.l.length S.x.c, .slice S.k.a S.k.l.length S.k.c, .slice S.r.a S.r.T.length S.r.c], .slice P.a P.R.length P.c] w (PInt l.sum b w) := by
  unfold PInt
  obtain ⟨wA, hA, hbA, bx, hSA, hszA⟩ := laid_sea S w 31 hS
  have x0 := bx.c0
  have x1 := bx.c1
  have x2 := bx.c2
  have x3 := bx.c3
  rw [hA] at x0 x1 x2 x3
  have HA := Lib.hid hA
  have CM := Lib.hid (show Calls _ _ _ _ (PInts l b wA) from implMoves_any S P wA hSA (hP.on hbA) l b hv)
  have HBA := Lib.hid hbA
  have HL := Lib.hid h5
  have HB := Lib.hid hb
  clear hS hP hA bx hSA hv h5 hb hbA
  go_enter Try.func39, Try.ntmps39
  go_wp2_with fail
  rw [← HA.out]
  refine (show Calls _ _ _ _ _ from CM.out).mono ?_
  rintro e W1 ⟨t, rfl, htl, -, hti, hb1⟩
  have CS := Lib.hid (by have := sumM_any t W1 hti.at (by rw [htl]; exact HB.out) (by rw [htl]; exact HL.out); rw [htl] at this; exact this)
  have HTL : Hid (t.l.length = l.length) := Lib.hid (by rw [htl])
  have HW1 := Lib.hid (HBA.out.trans (hb1.mono HBA.out.size))
  rw [HTL.out]
  clear x0 x1 x2 x3 hb1 htl hti
  go_wp2_with fail
  refine (show Calls _ _ _ _ _ from CS.out).mono ?_
  rintro e W2 ⟨rfl, rfl⟩
  go_wp2
  go_ret2
  exact ⟨rfl, HW1.out⟩
end Go.Proofs.Ytifgmbljimfebaa
