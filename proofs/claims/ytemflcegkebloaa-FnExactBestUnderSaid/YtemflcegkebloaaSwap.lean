/- The contracts of the model's list functions behind SwapSites: has, without. Condition: the list reads as such. -/
import Derived.Test.YtemflcegkebloaaPlainSwap
import Derived.Test.YtemflcegkebloaaServe
namespace Go.Proofs.Ytemflcegkebloaa
open Go.RowKit

/-- Whether a list has a number. -/
def hasI (l : List Int) (n : Int) : Bool := l.contains n
theorem has_no {l : List Int} {n : Int} (h : ∀ j, (hj : j < l.length) → l[j] ≠ n) : hasI l n = false := by
  unfold hasI
  rw [Bool.eq_false_iff]
  intro hc
  obtain ⟨j, hj, e⟩ := List.mem_iff_getElem.1 (List.contains_iff_mem.1 hc)
  exact h j hj e
theorem has_yes {l : List Int} {n : Int} {k : Nat} (h : k < l.length) (e : l[k] = n) : hasI l n = true := List.contains_iff_mem.2 (e ▸ List.getElem_mem h)

theorem without_step {l : List Int} {o : Int} {k : Nat} (h : k < l.length) : without (l.take (k + 1)) o = without (l.take k) o ++ (if l[k] = o then [] else [l[k]]) := by
  rw [List.take_succ_eq_append_getElem h]
  unfold without
  rw [List.filter_append]
  by_cases e : l[k] = o
  · simp [e]
  · simp [e]
theorem without_len (l : List Int) (o : Int) : (without l o).length ≤ l.length := List.length_filter_le _ _

end Go.Proofs.Ytemflcegkebloaa
