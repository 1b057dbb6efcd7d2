/- Plain mathematics of the first list with the least value, the empty list among them. No condition. -/
import Derived.Test.YtifgmbljimfebaaPlainServe
namespace Go.Proofs.Ytifgmbljimfebaa

def stepE (φ : List Nat → Int) (b T : List Nat) : List Nat := if φ T < φ b then T else b
def firstE (φ : List Nat → Int) : List (List Nat) → List Nat
  | [] => []
  | x :: r => r.foldl (stepE φ) x
theorem firstE_snoc (φ : List Nat → Int) (x : List Nat) (r : List (List Nat)) (T : List Nat) : firstE φ (x :: r ++ [T]) = stepE φ (firstE φ (x :: r)) T := by
  unfold firstE; simp [List.foldl_append]
theorem firstE_zero (φ : List Nat → Int) (C : List (List Nat)) {k : Nat} (hk : k < C.length) (h0 : k = 0) : firstE φ (C.take (k + 1)) = C[k] := by
  subst h0
  cases C with
  | nil => simp at hk
  | cons x r => simp [firstE]
theorem firstE_step (φ : List Nat → Int) (C : List (List Nat)) {k : Nat} (hk : k < C.length) (h0 : k ≠ 0) : firstE φ (C.take (k + 1)) = stepE φ (firstE φ (C.take k)) C[k] := by
  rw [List.take_succ_eq_append_getElem hk]
  cases C with
  | nil => simp at hk
  | cons x r =>
    obtain ⟨j, rfl⟩ : ∃ j, k = j + 1 := ⟨k - 1, by omega⟩
    rw [List.take_succ_cons, firstE_snoc]
end Go.Proofs.Ytifgmbljimfebaa
