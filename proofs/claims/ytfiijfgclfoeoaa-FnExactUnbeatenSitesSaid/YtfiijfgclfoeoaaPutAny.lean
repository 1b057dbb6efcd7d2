/- The contract of the model's putting of a number to its place. Condition: the list is owned and has not the number. -/
import Derived.Test.YtfiijfgclfoeoaaPut
import Derived.Test.YtfiijfgclfoeoaaClaims
namespace Go.Proofs.Ytfiijfgclfoeoaa
open Go.RowKit

/-- The row behind the three appends, for the answer. -/
theorem put_end {w w3 : World} {l : List Int} {k g cap : Nat} {n : Int} (hP : putAt l n = l.take k ++ n :: l.drop k) (h : w3.ownsRow w.heap.size 3 1 (.slice (some ⟨g, 0, none⟩) (l.length + 1) cap) (l.length + 1) (((iv [] ++ iv (l.take k)) ++ [.int .i64 n]) ++ iv (l.drop k))) (hb : Below w.heap.size w w3) :
    ∃ t : Row, Ending.returned (.slice (some ⟨g, 0, none⟩) (l.length + 1) cap) = .returned (.slice t.a t.l.length t.c) ∧ t.l = putAt l n ∧ t.Own 3 w3 ∧ t.In w.heap.size w3.heap.size w3 ∧ Below w.heap.size w w3 := by
  have e : (((iv [] ++ iv (l.take k)) ++ [.int .i64 n]) ++ iv (l.drop k)) = iv (putAt l n) := by rw [hP]; simp [iv]
  have hl : l.length + 1 = (putAt l n).length := by have := h.1; rw [e, iv_length] at this; omega
  rw [e] at h
  obtain ⟨t, ht, h1, h2, h3⟩ := row_of_ownN hl h
  exact ⟨t, congrArg Ending.returned ht, h1, h2, h3, hb⟩

end Go.Proofs.Ytfiijfgclfoeoaa
