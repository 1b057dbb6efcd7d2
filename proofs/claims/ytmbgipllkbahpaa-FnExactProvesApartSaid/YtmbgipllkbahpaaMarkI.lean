/- The contracts of the laws' marking of lists of integers, tables and Fields: each number is written over, and the numbers are read back. Condition: the memory is the call's own, the numbers are small. -/
import Derived.Test.YtmbgipllkbahpaaTab
namespace Go.Proofs.Ytmbgipllkbahpaa
open Go.RowKit

/-- What has been written behind i rows: the first i are marked, the others stand. -/
def Part (lo hi k i : Nat) (R : List Row) (w : World) : Prop :=
  ∀ j (h : j < R.length), (if j < i then R[j].mark (k + tot ((R.map Row.l).take j)) else R[j]).In lo hi w ∧ (if j < i then R[j].mark (k + tot ((R.map Row.l).take j)) else R[j]).Own 3 w
theorem part_step {lo hi k i : Nat} {R : List Row} {w w' : World} (h : Part lo hi k i R w) (hi' : i < R.length) (hap : R.Pairwise Row.Apart) (hw : Wrote R[i] w w')
    (h1 : (R[i].mark (k + tot ((R.map Row.l).take i))).In lo hi w') (h2 : (R[i].mark (k + tot ((R.map Row.l).take i))).Own 3 w') : Part lo hi k (i + 1) R w' := by
  intro j hj
  obtain ⟨a1, a2⟩ := h j hj
  have hpa : ∀ a b, (ha : a < R.length) → (hb : b < R.length) → a ≠ b → R[a].Apart R[b] := fun a b ha hb hne => by
    rcases Nat.lt_or_gt_of_ne hne with h | h
    · exact List.pairwise_iff_getElem.1 hap a b ha hb h
    · exact (List.pairwise_iff_getElem.1 hap b a hb ha h).symm
  by_cases hji : j = i
  · subst hji; rw [if_pos (by omega)]; exact ⟨h1, h2⟩
  by_cases hlt : j < i
  · rw [if_pos hlt] at a1 a2
    rw [if_pos (by omega)]
    have := ((hpa j i hj hi' hji).mark_left (k + tot ((R.map Row.l).take j))).symm
    exact ⟨a1.wrote hw this, a2.wrote a1 hw this⟩
  · rw [if_neg hlt] at a1 a2
    rw [if_neg (by omega)]
    have := (hpa i j hi' hj (fun e => hji e.symm))
    exact ⟨a1.wrote hw this, a2.wrote a1 hw this⟩

end Go.Proofs.Ytmbgipllkbahpaa
