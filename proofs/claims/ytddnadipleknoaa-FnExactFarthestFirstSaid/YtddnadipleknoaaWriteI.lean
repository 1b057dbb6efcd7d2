/- A write into a row of the call's own. No condition. -/
import Derived.Test.YtddnadipleknoaaServe
namespace Go.Proofs.Ytddnadipleknoaa
open Go.RowKit

theorem row_write {r : Row} {lo hi : Nat} {w : World} (ho : r.Own 3 w) (hi' : r.In lo hi w) {a : Nat} (ha : a < r.l.length) (x : Int) : ∃ g, r.a = some ⟨g, 0, none⟩ ∧ lo ≤ g ∧ g < hi ∧ g < w.heap.size ∧ w.frozen? ⟨g, a, none⟩ = false ∧ w.cell? ⟨g, a, none⟩ = some (.int .i64 r.l[a]) ∧
    (Row.mk r.a r.c (r.l.set a x)).Own 3 (w.setCell ⟨g, a, none⟩ (.int .i64 x)) ∧ (Row.mk r.a r.c (r.l.set a x)).In lo hi (w.setCell ⟨g, a, none⟩ (.int .i64 x)) ∧ Wrote r w (w.setCell ⟨g, a, none⟩ (.int .i64 x)) := by
  have hne : r.l ≠ [] := fun h => by rw [h] at ha; simp at ha
  obtain ⟨g, hga, hown⟩ := ho.resolve_left hne
  obtain ⟨_, _, h3⟩ := hi'
  rcases h3 with h3 | ⟨b, o, e, hl, hh, hb, _⟩
  · exact absurd (iv_nil h3) hne
  rw [hga] at e
  simp only [Option.some.injEq, Addr.mk.injEq] at e
  obtain ⟨rfl, rfl, _⟩ := e
  have hst := (hown.stored a (.int .i64 x)).1
  rw [show (iv r.l).set a (.int .i64 x) = iv (r.l.set a x) by unfold iv; rw [List.map_set]] at hst
  have hst' : (w.setCell ⟨g, a, none⟩ (.int .i64 x)).ownsRow 0 3 1 (.slice (some ⟨g, 0, none⟩) (r.l.set a x).length r.c) (r.l.set a x).length (iv (r.l.set a x)) := by rw [List.length_set]; exact hst
  obtain ⟨q1, q2, q3⟩ := row_of_owns hst'
  refine ⟨g, hga, hl, hh, hb, hown.frozenAt a, (hown.cellAt a (by omega)).trans (iv_at ha), .inr ⟨g, hga, hst'⟩, ⟨q1, q2, ?_⟩, ⟨rfl, rfl, rfl, by simp [World.setCell], fun j hj hn => Below.heap_setCell w ⟨g, a, none⟩ _ j (fun e => hn ⟨g, 0, none⟩ hne hga (by simp at e; simp only; omega))⟩⟩
  rcases q3 with q3 | ⟨b', o', e', hb', hc'⟩
  · exact .inl q3
  · simp only [Option.some.injEq, Addr.mk.injEq] at e'
    obtain ⟨rfl, rfl, _⟩ := e'
    exact .inr ⟨_, _, hga, hl, hh, hb', hc'⟩

end Go.Proofs.Ytddnadipleknoaa
