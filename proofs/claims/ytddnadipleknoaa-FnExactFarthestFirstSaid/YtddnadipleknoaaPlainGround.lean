/- Plain mathematics of grounds. No condition. -/
import Derived.Test.YtddnadipleknoaaPlainField
namespace Go.Proofs.Ytddnadipleknoaa

/-- The number in a table. -/
def cel (d : List (List Int)) (i j : Nat) : Int := (d.getD i []).getD j 0
/-- A table that is a ground. -/
structure Grd (d : List (List Int)) : Prop where
  few : d.length ≤ 7
  rows : d.all (rowB d.length) = true
  diag : ∀ i, i < d.length → cel d i i = 0
  same : ∀ i, i < d.length → ∀ j, j < i → cel d i j = cel d j i
def grdB (d : List (List Int)) : Bool :=
  decide (d.length ≤ 7) && d.all (rowB d.length) && (List.range d.length).all fun i => decide (cel d i i = 0) && (List.range i).all fun j => decide (cel d i j = cel d j i)
theorem grdB_iff {d : List (List Int)} : grdB d = true ↔ Grd d := by
  unfold grdB
  simp only [Bool.and_eq_true, decide_eq_true_eq, List.all_eq_true, List.mem_range]
  constructor
  · rintro ⟨⟨h1, h2⟩, h3⟩
    exact ⟨h1, by simpa using h2, fun i hi => (h3 i hi).1, fun i hi => (h3 i hi).2⟩
  · rintro ⟨h1, h2, h3, h4⟩
    exact ⟨⟨h1, by simpa using h2⟩, fun i hi => ⟨h3 i hi, h4 i hi⟩⟩
theorem grdB_no {d : List (List Int)} (h : ¬ Grd d) : grdB d = false := by rw [Bool.eq_false_iff]; intro e; exact h (grdB_iff.1 e)
theorem cel_at (d : List (List Int)) {i : Nat} (h : i < d.length) (j : Nat) : cel d i j = d[i].getD j 0 := by
  unfold cel
  rw [show d.getD i [] = d[i] by rw [List.getD_eq_getElem?_getD, List.getElem?_eq_getElem h]; rfl]
theorem rowB_iff {n : Nat} {l : List Int} : rowB n l = true ↔ l.all (upTo 99) = true ∧ l.length = n := by unfold rowB; simp
theorem getD_all {l : List Int} (h : l.all (upTo 99) = true) (j : Nat) : 0 ≤ l.getD j 0 ∧ l.getD j 0 ≤ 99 := by
  by_cases hj : j < l.length
  · rw [List.getD_eq_getElem?_getD, List.getElem?_eq_getElem hj]
    exact upTo_iff.1 (List.all_eq_true.1 h _ (List.getElem_mem hj))
  · rw [List.getD_eq_getElem?_getD, List.getElem?_eq_none (by omega)]; simp
theorem cel_bound {d : List (List Int)} {n : Nat} (h : d.all (rowB n) = true) (i j : Nat) : 0 ≤ cel d i j ∧ cel d i j ≤ 99 := by
  by_cases hi : i < d.length
  · rw [cel_at d hi]
    exact getD_all (rowB_iff.1 (List.all_eq_true.1 h _ (List.getElem_mem hi))).1 j
  · unfold cel; rw [show d.getD i [] = [] by rw [List.getD_eq_getElem?_getD, List.getElem?_eq_none (by omega)]; rfl]; simp
theorem Grd.sym {d : List (List Int)} (h : Grd d) {i j : Nat} (hi : i < d.length) (hj : j < d.length) : cel d i j = cel d j i := by
  rcases Nat.lt_trichotomy i j with e | e | e
  · exact (h.same j hj i e).symm
  · subst e; rfl
  · exact h.same i hi j e
theorem Grd.bound {d : List (List Int)} (h : Grd d) (i j : Nat) : 0 ≤ cel d i j ∧ cel d i j ≤ 99 := cel_bound h.rows i j

end Go.Proofs.Ytddnadipleknoaa
