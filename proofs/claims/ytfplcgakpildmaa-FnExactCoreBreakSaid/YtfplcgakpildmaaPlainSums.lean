/- The sums that the sets of places of a list have, by their codes. No condition. -/
import Derived.Test.YtfplcgakpildmaaBits
namespace Go.Proofs.Ytfplcgakpildmaa

/-- The sums of the sets of the first k places, by their codes. -/
def sumsTo (l : List Int) : Nat → List Int
  | 0 => [0]
  | k + 1 => sumsTo l k ++ (sumsTo l k).map fun s => s + l.getD k 0
def sumsL (l : List Int) : List Int := sumsTo l l.length
theorem sumsTo_len (l : List Int) : ∀ k, (sumsTo l k).length = 2 ^ k
  | 0 => rfl
  | k + 1 => by rw [sumsTo, List.length_append, List.length_map, sumsTo_len l k, Nat.pow_succ]; omega
/-- The sum of a list at some places. -/
def subS (l : List Int) (T : List Nat) : Int := (T.map fun j => l.getD j 0).sum
theorem subS_nil (l : List Int) : subS l [] = 0 := rfl
theorem subS_snoc (l : List Int) (T : List Nat) (k : Nat) : subS l (T ++ [k]) = subS l T + l.getD k 0 := by
  unfold subS; rw [List.map_append, List.sum_append]; simp
theorem bitsTo_low {c k : Nat} (d : Nat) (hd : d ≤ k) : bitsTo (2 ^ k + c) d = bitsTo c d := by
  unfold bitsTo
  refine List.filter_congr fun x hx => ?_
  rw [List.mem_range] at hx
  rw [Nat.testBit_two_pow_add_gt (by omega)]
theorem bitsTo_small {c k : Nat} (hc : c < 2 ^ k) : bitsTo c (k + 1) = bitsTo c k := by
  rw [bitsTo_step, Nat.testBit_lt_two_pow hc]; simp
theorem bitsTo_big {c k : Nat} (hc : c < 2 ^ k) : bitsTo (2 ^ k + c) (k + 1) = bitsTo c k ++ [k] := by
  rw [bitsTo_step, Nat.testBit_two_pow_add_eq, Nat.testBit_lt_two_pow hc, bitsTo_low k (Nat.le_refl k)]; simp
theorem sumsTo_at (l : List Int) : ∀ k c, c < 2 ^ k → (sumsTo l k).getD c 0 = subS l (bitsTo c k)
  | 0, c, h => by
    have : c = 0 := by simpa using h
    subst this; rfl
  | k + 1, c, h => by
    rw [Nat.pow_succ] at h
    rw [sumsTo, List.getD_eq_getElem?_getD]
    by_cases hc : c < 2 ^ k
    · rw [List.getElem?_append_left (by rw [sumsTo_len]; exact hc), ← List.getD_eq_getElem?_getD, sumsTo_at l k c hc, bitsTo_small hc]
    · obtain ⟨d, rfl⟩ : ∃ d, c = 2 ^ k + d := ⟨c - 2 ^ k, by omega⟩
      have hd : d < 2 ^ k := by omega
      have ih := sumsTo_at l k d hd
      have e : (sumsTo l k)[d]? = some ((sumsTo l k).getD d 0) := by
        have h2 : d < (sumsTo l k).length := by rw [sumsTo_len]; exact hd
        rw [List.getD_eq_getElem?_getD, List.getElem?_eq_getElem h2]; rfl
      rw [List.getElem?_append_right (by rw [sumsTo_len]; omega), sumsTo_len, Nat.add_sub_cancel_left, List.getElem?_map, bitsTo_big hd, subS_snoc, ← ih, e]
      rfl
theorem sumsL_len (l : List Int) : (sumsL l).length = 2 ^ l.length := sumsTo_len _ _
theorem sumsL_at (l : List Int) {c : Nat} (h : c < 2 ^ l.length) : (sumsL l).getD c 0 = subS l (bitsTo c l.length) := sumsTo_at l _ c h
/-- Sums of numbers from -m to m. -/
theorem sumsTo_bound {l : List Int} {m : Int} (hl : ∀ x ∈ l, -m ≤ x ∧ x ≤ m) (hm : 0 ≤ m) : ∀ k, ∀ x ∈ sumsTo l k, -(m * k) ≤ x ∧ x ≤ m * k
  | 0, x, h => by
    have : x = 0 := by simpa [sumsTo] using h
    subst this; simp
  | k + 1, x, h => by
    have hk : -m ≤ l.getD k 0 ∧ l.getD k 0 ≤ m := by
      by_cases hk : k < l.length
      · rw [List.getD_eq_getElem?_getD, List.getElem?_eq_getElem hk]; exact hl _ (List.getElem_mem hk)
      · rw [List.getD_eq_getElem?_getD, List.getElem?_eq_none (by omega)]; simp; omega
    have e : m * ((k + 1 : Nat) : Int) = m * k + m := by push_cast; rw [Int.mul_add, Int.mul_one]
    rw [e]
    rw [sumsTo, List.mem_append, List.mem_map] at h
    rcases h with h | ⟨y, h, rfl⟩
    · have := sumsTo_bound hl hm k x h; omega
    · have := sumsTo_bound hl hm k y h; omega
theorem sumsL_bound {l : List Int} {m : Int} (hl : ∀ x ∈ l, -m ≤ x ∧ x ≤ m) (hm : 0 ≤ m) : ∀ x ∈ sumsL l, -(m * l.length) ≤ x ∧ x ≤ m * l.length := sumsTo_bound hl hm _

/-- The least value of some sets. -/
def minV (φ : List Nat → Int) (L : List (List Nat)) : Int := L.foldl (fun b T => min b (φ T)) 9223372036854775807
theorem minV_step (φ : List Nat → Int) (L : List (List Nat)) {i : Nat} (h : i < L.length) : minV φ (L.take (i + 1)) = min (minV φ (L.take i)) (φ L[i]) := by
  unfold minV; rw [List.take_succ_eq_append_getElem h, List.foldl_append]; rfl
end Go.Proofs.Ytfplcgakpildmaa
