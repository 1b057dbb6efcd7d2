/- Plain mathematics of places that are picked. No condition. -/
import Derived.Test.YtjabdcallfipeaaPlainRow
namespace Go.Proofs.Ytjabdcallfipeaa

/-- The places, of the first k, of the numbers that are picked. -/
def places (P : Int → Bool) (l : List Int) : Nat → List Int
  | 0 => []
  | k + 1 => if P (l.getD k 0) then places P l k ++ [(k : Int)] else places P l k
theorem places_yes {P : Int → Bool} {l : List Int} {k : Nat} (h : P (l.getD k 0) = true) : places P l (k + 1) = places P l k ++ [(k : Int)] := by rw [places, if_pos h]
theorem places_no {P : Int → Bool} {l : List Int} {k : Nat} (h : P (l.getD k 0) = false) : places P l (k + 1) = places P l k := by rw [places, if_neg (by rw [h]; decide)]
theorem places_len (P : Int → Bool) (l : List Int) : ∀ k, (places P l k).length ≤ k
  | 0 => Nat.le_refl _
  | k + 1 => by
    have := places_len P l k
    unfold places
    split
    · rw [List.length_append]; simp; omega
    · omega
end Go.Proofs.Ytjabdcallfipeaa
