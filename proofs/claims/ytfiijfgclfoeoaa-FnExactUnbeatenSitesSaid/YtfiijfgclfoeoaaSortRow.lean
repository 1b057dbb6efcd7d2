/- The sorting of a row of the call's own. Condition: at most 1048576 numbers. -/
import Derived.Test.YtfiijfgclfoeoaaServe
import Derived.Test.YtfiijfgclfoeoaaShelf
import Derived.Sort.OwnSortedInts
namespace Go.Proofs.Ytfiijfgclfoeoaa
open Go.RowKit Go.Shelf

def sortA (l : List Int) : List Int := l.mergeSort fun x y => decide (x ≤ y)
theorem sortA_len (l : List Int) : (sortA l).length = l.length := by unfold sortA; rw [List.length_mergeSort]
theorem sortA_perm (l : List Int) : (sortA l).Perm l := List.mergeSort_perm _ _
theorem sortA_rises (l : List Int) : (sortA l).Pairwise (· ≤ ·) := by
  have := List.pairwise_mergeSort (le := fun x y : Int => decide (x ≤ y)) (fun a b c h1 h2 => by simp at *; omega) (fun a b => by simp; omega) l
  exact this.imp (fun h => by simpa using h)
theorem sortA_nil : sortA [] = [] := by have := sortA_len []; exact List.eq_nil_of_length_eq_zero this

theorem rowN_of_own {w : World} {B n : Nat} {e : TypeId} {v : Value} {l : List Int} (hn : n = l.length) (h : w.ownsRow B e 1 v n (iv l)) : ∃ t : Row, v = .slice t.a t.l.length t.c ∧ t.l = l ∧ t.Own e w ∧ t.In B w.heap.size w := by
  subst hn; exact row_of_own h

end Go.Proofs.Ytfiijfgclfoeoaa
