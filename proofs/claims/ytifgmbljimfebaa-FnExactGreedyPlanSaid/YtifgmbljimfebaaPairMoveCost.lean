/- MoveCost, on both sides. Condition: the arguments read as such. -/
import Derived.Test.YtifgmbljimfebaaMoveImpl
import Derived.Test.YtifgmbljimfebaaMoveSpec
namespace Go.Proofs.Ytifgmbljimfebaa
open Go.RowKit Go.Shelf

def movedB (S : Sea) (a : Int) (s t : Row) : Bool :=
  S.good && ((decide (0 ≤ a) && decide (a ≤ (S.r.T.length : Int) - 1)) && (setB S.o.l.length s.l && canB S.o.l.length t.l (S.r.con.getD a.toNat [])))
theorem moves_of {S : Sea} {a : Int} {s t : Row} (h : movedB S a s t = true) : ∃ (i : Nat) (B T : List Nat), a = (i : Int) ∧ Moves S i s t B T := by
  unfold movedB at h
  simp only [Bool.and_eq_true, decide_eq_true_eq] at h
  obtain ⟨h1, ⟨h2, h3⟩, h4, h5⟩ := h
  unfold canB at h5
  simp only [Bool.and_eq_true, Bool.or_eq_true, decide_eq_true_eq] at h5
  obtain ⟨h5, h6⟩ := h5
  obtain ⟨B, hB, lB⟩ := set_nat h4
  obtain ⟨T, hT, lT⟩ := set_nat h5
  refine ⟨a.toNat, B, T, by omega, ⟨h1, by omega, hB, hT, lB, lT, set_nodup (by rw [← hB]; exact h4), set_nodup (by rw [← hT]; exact h5), ?_⟩⟩
  rw [hT, up_length] at h6
  exact h6
/-- What MoveCost answers. -/
def MoveAns (S : Sea) (a : Int) (s t : Row) (v : Int) (b : Bool) : Prop :=
  (movedB S a s t = false ∧ v = 0 ∧ b = false) ∨ (∃ (i : Nat) (B T : List Nat), a = (i : Int) ∧ Moves S i s t B T ∧ movedB S a s t = true ∧ v = moveC S.o.l S.x.l S.k.l (S.r.con.getD i []) B T ∧ b = true)
theorem moveAns_some (S : Sea) (a : Int) (s t : Row) : ∃ v b, MoveAns S a s t v b := by
  cases h : movedB S a s t with
  | false => exact ⟨0, false, .inl ⟨h, rfl, rfl⟩⟩
  | true =>
    obtain ⟨i, B, T, h1, h2⟩ := moves_of h
    exact ⟨_, true, .inr ⟨i, B, T, h1, h2, h, rfl, rfl⟩⟩
theorem Sea.Like.lenT {S G : Sea} (h : G.Like S) : G.r.T.length = S.r.T.length := by have := congrArg List.length h.2.2.2; rw [Cube.con_length, Cube.con_length] at this; exact this
theorem moveAns_like {S G : Sea} {a : Int} {s t s' t' : Row} {v : Int} {b : Bool} (h : MoveAns S a s t v b) (hl : G.Like S) (hs : s'.l = s.l) (ht : t'.l = t.l) : MoveAns G a s' t' v b := by
  have e : movedB G a s' t' = movedB S a s t := by unfold movedB; rw [hl.good, hl.lenT, hl.1, hl.2.2.2, hs, ht]
  unfold MoveAns
  rw [e]
  rcases h with h | ⟨i, B, T, h1, h2, h3, h4, h5⟩
  · exact .inl h
  · refine .inr ⟨i, B, T, h1, ⟨hl.good.trans h2.good, by rw [hl.lenT]; exact h2.round, hs.trans h2.before, ht.trans h2.set, by rw [hl.1]; exact h2.ltB, by rw [hl.1]; exact h2.ltT, h2.ndB, h2.ndT, by rw [hl.2.2.2]; exact h2.some⟩, h3, ?_, h5⟩
    rw [hl.1, hl.2.1, hl.2.2.1, hl.2.2.2]; exact h4

end Go.Proofs.Ytifgmbljimfebaa
