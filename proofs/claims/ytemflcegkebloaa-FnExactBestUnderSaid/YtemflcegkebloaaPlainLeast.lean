/- Plain facts of the first least one of some sets. No condition. -/
import Derived.Test.YtemflcegkebloaaPlainSets
namespace Go.Proofs.Ytemflcegkebloaa

def stepB (φ : List Nat → Int) (b T : List Nat) : List Nat := if b = [] ∨ φ T < φ b then T else b
def firstB (φ : List Nat → Int) (L : List (List Nat)) : List Nat := L.foldl (stepB φ) []
def stepK (φ : List Nat → Int) (k : Nat) (b T : List Nat) : List Nat := if T.length = k then stepB φ b T else b
def firstK (φ : List Nat → Int) (k : Nat) (L : List (List Nat)) : List Nat := L.foldl (stepK φ k) []
theorem firstB_step (φ : List Nat → Int) (L : List (List Nat)) {i : Nat} (h : i < L.length) : firstB φ (L.take (i + 1)) = stepB φ (firstB φ (L.take i)) L[i] := by
  unfold firstB; rw [List.take_succ_eq_append_getElem h, List.foldl_append]; rfl
theorem firstK_step (φ : List Nat → Int) (k : Nat) (L : List (List Nat)) {i : Nat} (h : i < L.length) : firstK φ k (L.take (i + 1)) = stepK φ k (firstK φ k (L.take i)) L[i] := by
  unfold firstK; rw [List.take_succ_eq_append_getElem h, List.foldl_append]; rfl
theorem firstK_filter (φ : List Nat → Int) (k : Nat) (L : List (List Nat)) : firstK φ k L = firstB φ (L.filter fun T => T.length == k) := by
  unfold firstK firstB
  rw [List.foldl_filter]
  have e : (fun b T => if (T.length == k) = true then stepB φ b T else b) = stepK φ k := by
    funext b T
    unfold stepK
    simp only [beq_iff_eq]
  rw [e]
theorem stepB_mem {φ : List Nat → Int} {b T : List Nat} : stepB φ b T = b ∨ stepB φ b T = T := by
  unfold stepB; split <;> simp
theorem firstB_mem (φ : List Nat → Int) : ∀ (L : List (List Nat)) (b : List Nat), L.foldl (stepB φ) b = b ∨ L.foldl (stepB φ) b ∈ L
  | [], b => .inl rfl
  | T :: r, b => by
    rw [List.foldl_cons]
    rcases firstB_mem φ r (stepB φ b T) with h | h
    · rw [h]
      rcases stepB_mem (φ := φ) (b := b) (T := T) with h2 | h2
      · exact .inl h2
      · exact .inr (by rw [h2]; exact List.mem_cons_self)
    · exact .inr (List.mem_cons_of_mem _ h)
theorem firstK_mem (φ : List Nat → Int) (k : Nat) : ∀ (L : List (List Nat)) (b : List Nat), L.foldl (stepK φ k) b = b ∨ L.foldl (stepK φ k) b ∈ L
  | [], b => .inl rfl
  | T :: r, b => by
    rw [List.foldl_cons]
    rcases firstK_mem φ k r (stepK φ k b T) with h | h
    · rw [h]
      by_cases e : T.length = k
      · rw [show stepK φ k b T = stepB φ b T by unfold stepK; rw [if_pos e]]
        rcases stepB_mem (φ := φ) (b := b) (T := T) with h2 | h2
        · exact .inl h2
        · exact .inr (by rw [h2]; exact List.mem_cons_self)
      · rw [show stepK φ k b T = b by unfold stepK; rw [if_neg e]]
        exact .inl rfl
    · exact .inr (List.mem_cons_of_mem _ h)
theorem firstB_some {φ : List Nat → Int} {L : List (List Nat)} (hL : L ≠ []) (hn : ∀ T ∈ L, T ≠ []) : firstB φ L ∈ L := by
  cases L with
  | nil => exact absurd rfl hL
  | cons T r =>
    unfold firstB
    rw [List.foldl_cons, show stepB φ [] T = T by simp [stepB]]
    rcases firstB_mem φ r T with h | h
    · rw [h]; exact List.mem_cons_self
    · exact List.mem_cons_of_mem _ h
/-- The first set of k of n sites with the least value. -/
def bestK (φ : List Nat → Int) (n k : Nat) : List Nat := firstB φ (combs n k)
theorem bestK_model (φ : List Nat → Int) {n k : Nat} (hn : n ≤ 7) (h1 : 1 ≤ k) (hk : k ≤ n) : firstK φ k (setsTo n (2 ^ n - 1)) = bestK φ n k := by
  rw [sets_all n hn, firstK_filter, sets_some hn h1 hk]; rfl
theorem bestK_mem (φ : List Nat → Int) {n k : Nat} (hn : n ≤ 7) (h1 : 1 ≤ k) (hk : k ≤ n) : bestK φ n k ∈ combs n k := by
  obtain ⟨_, h2, h3, _⟩ := combs_ok hn h1 hk
  refine firstB_some (fun e => by rw [e] at h2; cases h2) fun T hT e => ?_
  have := (h3 T hT).1
  rw [e] at this
  simp at this; omega
end Go.Proofs.Ytemflcegkebloaa
