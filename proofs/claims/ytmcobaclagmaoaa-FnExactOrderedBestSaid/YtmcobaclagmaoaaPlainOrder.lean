/- Numbers in ascending order, and sums of products: plain. No condition. -/
import Derived.Test.YtmcobaclagmaoaaSortRow
namespace Go.Proofs.Ytmcobaclagmaoaa

/-- A number put into a list that ascends, behind those that are not greater. -/
def insA : List Int → Int → List Int
  | [], x => [x]
  | y :: l, x => if y ≤ x then y :: insA l x else x :: y :: l
theorem insA_perm (x : Int) : ∀ l : List Int, (insA l x).Perm (x :: l)
  | [] => List.Perm.refl _
  | y :: l => by
    unfold insA
    split
    · exact ((insA_perm x l).cons y).trans (List.Perm.swap ..)
    · exact List.Perm.refl _
theorem insA_rises (x : Int) : ∀ l : List Int, l.Pairwise (· ≤ ·) → (insA l x).Pairwise (· ≤ ·)
  | [], _ => List.pairwise_singleton _ _
  | y :: l, h => by
    rw [List.pairwise_cons] at h
    unfold insA
    split
    · next hy =>
      rw [List.pairwise_cons]
      refine ⟨fun z hz => ?_, insA_rises x l h.2⟩
      rcases List.mem_cons.1 ((insA_perm x l).mem_iff.1 hz) with rfl | hz
      · exact hy
      · exact h.1 z hz
    · next hy =>
      rw [List.pairwise_cons]
      refine ⟨fun z hz => ?_, List.pairwise_cons.2 h⟩
      rcases List.mem_cons.1 hz with rfl | hz
      · omega
      · have := h.1 z hz; omega
theorem insA_at (x : Int) : ∀ (l : List Int) (k : Nat), k ≤ l.length → (∀ j, (hj : j < l.length) → j < k → l[j] ≤ x) → (k = l.length ∨ ∃ hk : k < l.length, ¬ l[k] ≤ x) → insA l x = l.take k ++ x :: l.drop k
  | [], k, hk, _, _ => by simp at hk; subst hk; rfl
  | y :: l, 0, _, _, h => by
    rcases h with h | ⟨_, h⟩
    · simp at h
    · have h' : ¬ y ≤ x := h
      unfold insA; rw [if_neg h']; rfl
  | y :: l, k + 1, hk, hall, h => by
    have h0 : y ≤ x := hall 0 (by simp) (by omega)
    unfold insA
    rw [if_pos h0, insA_at x l k (by simpa using hk) (fun j hj hjk => by have := hall (j + 1) (by simpa using hj) (by omega); simpa using this) (by
      rcases h with h | ⟨h1, h2⟩
      · exact .inl (by simpa using h)
      · exact .inr ⟨by simpa using h1, by simpa using h2⟩)]
    rfl
/-- The first j numbers of a list, put in one after the other. -/
def insL (L : List Int) : Nat → List Int
  | 0 => []
  | j + 1 => insA (insL L j) (L.getD j 0)
theorem insL_rises (L : List Int) : ∀ j, (insL L j).Pairwise (· ≤ ·)
  | 0 => List.Pairwise.nil
  | j + 1 => insA_rises _ _ (insL_rises L j)
theorem insL_perm (L : List Int) : ∀ j, j ≤ L.length → (insL L j).Perm (L.take j)
  | 0, _ => by simp [insL]
  | j + 1, h => by
    refine (insA_perm _ _).trans ?_
    rw [List.take_succ_eq_append_getElem (by omega), show L.getD j 0 = L[j] by rw [List.getD_eq_getElem?_getD, List.getElem?_eq_getElem (by omega)]; rfl]
    exact ((insL_perm L j (by omega)).cons _).trans (List.perm_append_singleton _ _).symm
theorem insL_len (L : List Int) {j : Nat} (h : j ≤ L.length) : (insL L j).length = j := by rw [(insL_perm L j h).length_eq, List.length_take]; omega
theorem insL_sort (L : List Int) : insL L L.length = sortA L := by
  have h := (insL_perm L L.length (Nat.le_refl _))
  rw [List.take_length] at h
  exact List.Perm.eq_of_pairwise (le := fun x y : Int => x ≤ y) (fun x y _ _ h1 h2 => by omega) (insL_rises L _) (sortA_rises L) (h.trans (sortA_perm L).symm)

/-- The sum of the first products of two lists. -/
def dotW (xs ys : List Int) (k : Nat) : Int := ((List.range k).map fun i => xs.getD i 0 * ys.getD i 0).sum
theorem dotW_zero (xs ys : List Int) : dotW xs ys 0 = 0 := by simp [dotW]
theorem dotW_step (xs ys : List Int) (k : Nat) : dotW xs ys (k + 1) = dotW xs ys k + xs.getD k 0 * ys.getD k 0 := by unfold dotW; rw [List.range_succ, List.map_append, List.sum_append]; simp
theorem mulW {x y : Int} (h0 : 0 ≤ x) (h1 : x ≤ 99) (h2 : 0 ≤ y) (h3 : y ≤ 99) : 0 ≤ x * y ∧ x * y ≤ 9801 := by
  have a := Int.mul_le_mul_of_nonneg_left h3 h0
  exact ⟨Int.mul_nonneg h0 h2, by omega⟩
theorem getW {l : List Int} (h : ∀ x ∈ l, 0 ≤ x ∧ x ≤ 99) (k : Nat) : 0 ≤ l.getD k 0 ∧ l.getD k 0 ≤ 99 := getD_bound h k
structure DotsW (xs ys : List Int) : Prop where
  x : ∀ x ∈ xs, 0 ≤ x ∧ x ≤ 99
  y : ∀ y ∈ ys, 0 ≤ y ∧ y ≤ 99
theorem DotsW.at {xs ys : List Int} (h : DotsW xs ys) (k : Nat) : 0 ≤ xs.getD k 0 * ys.getD k 0 ∧ xs.getD k 0 * ys.getD k 0 ≤ 9801 := by
  have a := getW h.x k
  have b := getW h.y k
  exact mulW a.1 a.2 b.1 b.2
theorem DotsW.sum {xs ys : List Int} (h : DotsW xs ys) : ∀ k : Nat, 0 ≤ dotW xs ys k ∧ dotW xs ys k ≤ 9801 * (k : Int)
  | 0 => by rw [dotW_zero]; simp
  | k + 1 => by have := h.sum k; have := h.at k; rw [dotW_step]; omega
end Go.Proofs.Ytmcobaclagmaoaa
