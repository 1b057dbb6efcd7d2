/- The cells of a table in memory, row by row. Condition: the table reads as such. -/
import Derived.Test.YtddnadipleknoaaMem
import Derived.Test.YtddnadipleknoaaPlainGround
namespace Go.Proofs.Ytddnadipleknoaa
open Go.RowKit

theorem cel_row (T : Tab) {i : Nat} (h : i < T.R.length) (j : Nat) : cel T.con i j = T.R[i].l.getD j 0 := by
  rw [cel_at T.con (by rw [con_length]; exact h)]; simp [Tab.con]
theorem row_cell {r : Row} {w : World} (hr : r.At w) (h0 : 0 < r.l.length) : ∃ b o, r.a = some ⟨b, o, none⟩ ∧ b < w.heap.size ∧ ∀ u, Below w.heap.size w u → ∀ m, m < r.l.length → u.cell? ⟨b, o + m, none⟩ = some (.int .i64 (r.l.getD m 0)) := by
  obtain ⟨_, _, h3⟩ := hr
  rcases h3 with h3 | ⟨b, o, ha, hb, hc⟩
  · have := congrArg List.length (iv_nil h3); rw [List.length_nil] at this; omega
  · refine ⟨b, o, ha, hb, fun u hu m hm => ?_⟩
    rw [hu.cell (p := ⟨b, o + m, none⟩) hb, hc m _ (iv_at hm), List.getD_eq_getElem?_getD, List.getElem?_eq_getElem hm]; rfl
/-- Where a table's rows lie. -/
theorem tab_rows {T : Tab} {w : World} (hT : T.At w) (h0 : 0 < T.R.length) : ∃ b o, T.a = some ⟨b, o, none⟩ ∧ b < w.heap.size ∧ ∀ u, Below w.heap.size w u → ∀ k (h : k < T.R.length), u.cell? ⟨b, o + k, none⟩ = some (.slice T.R[k].a T.R[k].l.length T.R[k].c) := by
  obtain ⟨⟨_, _, h3⟩, _⟩ := hT
  rcases h3 with h3 | ⟨b, o, ha, hb, hc⟩
  · have := congrArg List.length h3; rw [tv_length, List.length_nil] at this; omega
  · exact ⟨b, o, ha, hb, fun u hu k h => (hu.cell (p := ⟨b, o + k, none⟩) hb).trans (hc k _ (tv_at h))⟩
/-- The cells of a table all of whose rows have n numbers. -/
theorem sq_cells {T : Tab} {w : World} {n : Nat} (hT : T.At w) (hr : T.con.all (rowB n) = true) (h0 : 0 < T.R.length) (hn : 0 < n) : ∃ b o, T.a = some ⟨b, o, none⟩ ∧ ∀ i, i < T.R.length → ∃ b' o' c, ∀ u, Below w.heap.size w u → u.cell? ⟨b, o + i, none⟩ = some (.slice (some ⟨b', o', none⟩) n c) ∧ ∀ m, m < n → u.cell? ⟨b', o' + m, none⟩ = some (.int .i64 (cel T.con i m)) := by
  obtain ⟨b, o, ha, _, hc⟩ := tab_rows hT h0
  refine ⟨b, o, ha, fun i hi => ?_⟩
  have hl : T.R[i].l.length = n := by
    have := List.all_eq_true.1 hr (T.R[i].l) (by unfold Tab.con; exact List.mem_map_of_mem (List.getElem_mem hi))
    exact (rowB_iff.1 this).2
  obtain ⟨b', o', ha', _, hc'⟩ := row_cell (hT.2 _ (List.getElem_mem hi)) (by rw [hl]; exact hn)
  refine ⟨b', o', T.R[i].c, fun u hu => ⟨?_, fun m hm => ?_⟩⟩
  · rw [hc u hu i hi, ha', hl]
  · rw [hc' u hu m (by rw [hl]; exact hm), cel_row T hi]
theorem grd_cells {T : Tab} {w : World} (hT : T.At w) (hg : Grd T.con) (h0 : 0 < T.R.length) : ∃ b o, T.a = some ⟨b, o, none⟩ ∧ ∀ i, i < T.R.length → ∃ b' o' c, ∀ u, Below w.heap.size w u → u.cell? ⟨b, o + i, none⟩ = some (.slice (some ⟨b', o', none⟩) T.R.length c) ∧ ∀ m, m < T.R.length → u.cell? ⟨b', o' + m, none⟩ = some (.int .i64 (cel T.con i m)) :=
  sq_cells hT (by have := hg.rows; rw [con_length] at this; exact this) h0 h0
theorem row_lim0 {r : Row} {w : World} (hr : r.At w) : (r.l.length : Int) ≤ 9223372036854775807 := by obtain ⟨q1, q2, _⟩ := hr; rw [iv_length] at q1; unfold maxLen at q2; omega
theorem tab_lim0 {T : Tab} {w : World} (hT : T.At w) : (T.R.length : Int) ≤ 9223372036854775807 := by obtain ⟨⟨q1, q2, _⟩, _⟩ := hT; rw [tv_length] at q1; unfold maxLen at q2; omega

end Go.Proofs.Ytddnadipleknoaa
