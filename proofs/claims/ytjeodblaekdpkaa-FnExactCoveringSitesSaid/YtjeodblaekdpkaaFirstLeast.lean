/- The contract of the search of the first list with the least service, over an iterator of lists. Condition: a valid Field, and lists of its sites. -/
import Derived.Test.YtjeodblaekdpkaaSizeSeq
import Derived.Test.YtjeodblaekdpkaaBestK
namespace Go.Proofs.Ytjeodblaekdpkaa
open Go.RowKit Go.Shelf
attribute [local go_sem] Oper.semAt_some

/-- In blocks from B on. -/
def Row.Ge (B : Nat) (r : Row) : Prop := r.l ≠ [] → ∀ x, r.a = some x → B ≤ x.block
theorem held_in {B : Nat} {w : World} {r : Row} (h : r.Held w) (hg : r.Ge B) : r.In B w.heap.size w := by
  obtain ⟨q1, q2, q3⟩ := h.2
  refine ⟨q1, q2, ?_⟩
  rcases q3 with q3 | ⟨b, o, e, _, hh, hlt, hc⟩
  · exact .inl q3
  · by_cases hn : r.l = []
    · exact .inl (by rw [hn]; rfl)
    · exact .inr ⟨b, o, e, hg hn _ e, hh, hlt, hc⟩
theorem in_ge {B hi : Nat} {w : World} {r : Row} (h : r.In B hi w) : r.Ge B := fun hl x hx => by
  obtain ⟨_, _, q3⟩ := h
  rcases q3 with q3 | ⟨b, o, e, hl', _⟩
  · exact absurd (iv_nil q3) hl
  · rw [hx] at e; simp only [Option.some.injEq] at e; subst e; exact hl'

/-- What the search holds between two rounds. -/
structure Holds (B : Nat) (V w : World) (φ : List Nat → Int) (C : List (List Nat)) (k : Nat) (y : Row) (W : World) : Prop where
  b5 : Boxed W (B + 1 + 1) 22 (.slice y.a y.l.length y.c)
  b6 : Boxed W (B + 1 + 1 + 1) 3 (.int .i64 (if k = 0 then 0 else φ (firstB φ (C.take k))))
  b3 : W.heap[B]? = V.heap[B]?
  bl : Below B w W
  yl : y.l = up (firstB φ (C.take k))
  ge : y.Ge B
theorem Holds.keep {B M : Nat} {V w : World} {φ : List Nat → Int} {C : List (List Nat)} {k : Nat} {y : Row} {A A' : World} (h : Holds B V w φ C k y A) (hb : Below M A A') (hM : B + 1 + 1 + 1 + 1 ≤ M) : Holds B V w φ C k y A' :=
  ⟨(hb.block _ (by omega)).trans h.b5, (hb.block _ (by omega)).trans h.b6, (hb.block _ (by omega)).trans h.b3, h.bl.trans (hb.mono (by omega)), h.yl, h.ge⟩

end Go.Proofs.Ytjeodblaekdpkaa
