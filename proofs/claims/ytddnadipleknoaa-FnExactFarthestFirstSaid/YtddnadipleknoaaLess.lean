/- The numbers of a list that another one has not (without), on the program's side. Condition: the lists read as such, the first with at most seven numbers. -/
import Derived.Test.YtddnadipleknoaaDelete
import Derived.Test.YtddnadipleknoaaSwap
import Derived.Test.YtddnadipleknoaaShelf
namespace Go.Proofs.Ytddnadipleknoaa
open Go.RowKit Go.Shelf

theorem contL_any (s : Row) (x : Int) (w : World) (hs : s.At w) (hsm : s.l.length ≤ 1048576) :
    Calls Try.prog 62 #[.slice s.a s.l.length s.c, .int .i64 x] w fun e w' => e = .returned (.bool (hasI s.l x)) ∧ w' = w := by
  obtain ⟨a, c, l⟩ := s
  obtain ⟨h1, h2, h3⟩ := hs
  simp only at h1 h2 h3 hsm ⊢
  by_cases h0 : l = []
  · subst h0
    exact Try.slices_Contains_int_empty a c x w
  rcases h3 with h3 | ⟨b, o, rfl, hb, hcell⟩
  · exact absurd (iv_nil h3) h0
  have := Try.slices_Contains_int b o l.length c l x w (Nat.le_refl _) (by omega) (fun j hj => by rw [hcell j _ (iv_at hj), List.getD_eq_getElem?_getD, List.getElem?_eq_getElem hj]; rfl)
  rw [List.take_length] at this; exact this
/-- A copy, of an empty list too. -/
theorem cloneL_any (s : Row) (w : World) (hs : s.At w) (hn : s.l.length ≤ 1048576) :
    Calls Try.prog 83 #[.slice s.a s.l.length s.c] w fun e w' => ∃ t : Row, e = .returned (.slice t.a t.l.length t.c) ∧ t.l = s.l ∧ t.Own 3 w' ∧ t.In w.heap.size w'.heap.size w' ∧ Below w.heap.size w w' := by
  obtain ⟨a, c, l⟩ := s
  obtain ⟨q1, q2, q3⟩ := hs
  simp only at q1 q2 q3 hn ⊢
  by_cases h0 : l = []
  · subst h0
    cases a with
    | none =>
      refine (Try.slices_Clone_int_nil 0 c w).mono ?_
      rintro e w' ⟨rfl, rfl⟩
      exact ⟨⟨none, 0, []⟩, rfl, rfl, .inl rfl, ⟨by simp [iv], by decide, .inl rfl⟩, Below.refl _ _⟩
    | some x =>
      refine (Try.slices_Clone_int_zero x c w).mono ?_
      rintro e w' ⟨v', rfl, h2, _, h3⟩
      obtain ⟨t, rfl, htl, hto, hti⟩ := row_of_own (l := []) h2
      exact ⟨t, rfl, htl, hto, hti, h3⟩
  · rcases q3 with h3 | ⟨bk, of, rfl, hbb, hcell⟩
    · exact absurd (iv_nil h3) h0
    have HC : ∀ j, j < l.length → w.cell? ⟨bk, of + j, none⟩ = some (.int .i64 (l.getD j 0)) := fun j hj => by
      rw [hcell j _ (iv_at hj), List.getD_eq_getElem?_getD, List.getElem?_eq_getElem hj]; rfl
    refine (Try.slices_Clone_int bk of l.length c l w (Nat.le_refl _) (by omega) HC).mono ?_
    rintro e w' ⟨v', rfl, ho, _, hb⟩
    rw [List.take_length] at ho
    obtain ⟨t, rfl, htl, hto, hti⟩ := row_of_own (l := l) ho
    exact ⟨t, rfl, htl, hto, hti, hb⟩

end Go.Proofs.Ytddnadipleknoaa
