/- What the taking of the last near site of each client gives. Plain lists. -/
import Derived.Test.YtfgedolngcdjpaaNearLine
import Derived.Test.YtfgedolngcdjpaaTakenLine
namespace Go.Proofs.Ytfgedolngcdjpaa
def lastN (l : List Int) : Int := l.getLast?.getD (-1)
theorem lastN_snoc (l : List Int) (x : Int) : lastN (l ++ [x]) = x := by unfold lastN; rw [List.getLast?_append]; simp
theorem lastN_getD {l : List Int} (h : l ≠ []) : l.getD (l.length - 1) 0 = lastN l := by
  unfold lastN
  rw [List.getLast?_eq_getElem?, List.getD_eq_getElem?_getD]
  have : l.length - 1 < l.length := by have := List.length_pos_iff.2 h; omega
  rw [List.getElem?_eq_getElem this]; rfl
theorem places_mem {P : Int → Bool} {l : List Int} {y : Int} : ∀ {k : Nat}, y ∈ places P l k ↔ ∃ j, j < k ∧ y = (j : Int) ∧ P (l.getD j 0) = true
  | 0 => by simp [places]
  | k + 1 => by
    have ih := @places_mem P l y k
    by_cases h : P (l.getD k 0) = true
    · rw [places_yes h, List.mem_append, ih, List.mem_singleton]
      constructor
      · rintro (⟨j, h1, h2, h3⟩ | rfl)
        · exact ⟨j, by omega, h2, h3⟩
        · exact ⟨k, by omega, rfl, h⟩
      · rintro ⟨j, h1, h2, h3⟩
        by_cases hj : j = k
        · subst hj; exact .inr h2
        · exact .inl ⟨j, by omega, h2, h3⟩
    · rw [places_no (by simpa using h), ih]
      constructor
      · rintro ⟨j, h1, h2, h3⟩; exact ⟨j, by omega, h2, h3⟩
      · rintro ⟨j, h1, h2, h3⟩
        have : j ≠ k := by rintro rfl; exact h h3
        exact ⟨j, by omega, h2, h3⟩
theorem lastN_mem {l : List Int} (h : l ≠ []) : lastN l ∈ l := by
  unfold lastN; rw [List.getLast?_eq_some_getLast h]; exact List.getLast_mem h
theorem lastN_neg {P : Int → Bool} {l : List Int} {k : Nat} : lastN (places P l k) < 0 ↔ places P l k = [] := by
  constructor
  · intro h
    by_cases h0 : places P l k = []
    · exact h0
    · obtain ⟨j, _, h2, _⟩ := places_mem.1 (lastN_mem h0); omega
  · intro h; rw [h]; decide

/-- The sites taken after k clients. -/
def lsT (s c : List Int) (r : Int) : Nat → List Int
  | 0 => []
  | k + 1 => if (nearL s r (c.getD k 0)).all (outT (lsT s c r k)) then lsT s c r k ++ [lastN (nearL s r (c.getD k 0))] else lsT s c r k
theorem lsT_take {s c : List Int} {r : Int} {k : Nat} (h : (nearL s r (c.getD k 0)).all (outT (lsT s c r k)) = true) : lsT s c r (k + 1) = lsT s c r k ++ [lastN (nearL s r (c.getD k 0))] := by rw [lsT, if_pos h]
theorem lsT_skip {s c : List Int} {r : Int} {k : Nat} (h : (nearL s r (c.getD k 0)).all (outT (lsT s c r k)) = false) : lsT s c r (k + 1) = lsT s c r k := by rw [lsT, if_neg (by rw [h]; decide)]
theorem lsT_len (s c : List Int) (r : Int) : ∀ k, (lsT s c r k).length ≤ k
  | 0 => Nat.le_refl _
  | k + 1 => by
    have := lsT_len s c r k
    unfold lsT
    split
    · rw [List.length_append]; simp; omega
    · omega
/-- Every client so far has a near site. -/
def okTo (s c : List Int) (r : Int) (k : Nat) : Prop := ∀ j, j < k → nearL s r (c.getD j 0) ≠ []
theorem okTo_next {s c : List Int} {r : Int} {k : Nat} (h : okTo s c r k) (h1 : nearL s r (c.getD k 0) ≠ []) : okTo s c r (k + 1) := by
  intro j hj
  by_cases hjk : j = k
  · subst hjk; exact h1
  · exact h j (by omega)
theorem lsT_in {s c : List Int} {r : Int} : ∀ {k : Nat}, okTo s c r k → ∀ y ∈ lsT s c r k, ∃ i : Nat, y = (i : Int) ∧ i < s.length
  | 0, _ => by simp [lsT]
  | k + 1, h => by
    have ih := @lsT_in s c r k (fun j hj => h j (by omega))
    by_cases h1 : (nearL s r (c.getD k 0)).all (outT (lsT s c r k)) = true
    · rw [lsT_take h1]
      intro y hy
      rcases List.mem_append.1 hy with hy | hy
      · exact ih y hy
      · obtain rfl := List.mem_singleton.1 hy
        obtain ⟨j, h2, h3, _⟩ := places_mem.1 (lastN_mem (h k (by omega)))
        exact ⟨j, h3, h2⟩
    · rw [lsT_skip (by simpa using h1)]; exact ih
/-- Whether a taken site has a length of at most r. -/
def hitL (x r : Int) (s : List Int) (y : Int) : Bool := decide ((distL x s).getD y.toNat 0 ≤ r)
theorem distL_getD (x : Int) (s : List Int) {i : Nat} (hi : i < s.length) : (distL x s).getD i 0 = max (x - s.getD i 0) (s.getD i 0 - x) := by
  rw [List.getD_eq_getElem?_getD, List.getD_eq_getElem?_getD, List.getElem?_eq_getElem (by rw [distL_len]; exact hi), List.getElem?_eq_getElem hi]
  simp [distL]
theorem reached_eq {s T : List Int} {r x : Int} (hT : ∀ y ∈ T, ∃ i : Nat, y = (i : Int) ∧ i < s.length) : T.any (hitL x r s) = !(nearL s r x).all (outT T) := by
  rw [Bool.eq_iff_iff, List.any_eq_true, Bool.not_eq_true', ← Bool.not_eq_true, List.all_eq_true]
  constructor
  · rintro ⟨y, hy, h⟩ ha
    obtain ⟨i, rfl, hi⟩ := hT y hy
    unfold hitL at h
    rw [Int.toNat_natCast, distL_getD x s hi] at h
    have := ha (i : Int) (places_mem.2 ⟨i, hi, rfl, h⟩)
    unfold outT at this
    rw [List.contains_iff_mem.2 hy] at this; cases this
  · intro h
    by_cases h0 : ∃ y ∈ T, hitL x r s y = true
    · exact h0
    · exfalso; apply h
      intro y hy
      obtain ⟨i, hi, rfl, hp⟩ := places_mem.1 hy
      unfold outT
      rw [Bool.not_eq_true', ← Bool.not_eq_true, List.contains_iff_mem]
      intro hm
      apply h0
      refine ⟨_, hm, ?_⟩
      unfold hitL
      rw [Int.toNat_natCast, distL_getD x s hi]; exact hp
/-- The answer. -/
def LSs (s c : List Int) (r : Int) (l : List Int) (b : Bool) : Prop :=
  ((lineB s c = true ∧ 0 ≤ r ∧ okTo s c r c.length) ∧ l = lsT s c r c.length ∧ b = true) ∨ (¬ (lineB s c = true ∧ 0 ≤ r ∧ okTo s c r c.length) ∧ l = [] ∧ b = false)
theorem lss_some (s c : List Int) (r : Int) : ∃ (l : List Int) (b : Bool), LSs s c r l b ∧ (c.length ≤ 1048576 → l.length ≤ 1048576) := by
  by_cases h : lineB s c = true ∧ 0 ≤ r ∧ okTo s c r c.length
  · exact ⟨_, _, .inl ⟨h, rfl, rfl⟩, fun hc => Nat.le_trans (lsT_len _ _ _ _) hc⟩
  · exact ⟨_, _, .inr ⟨h, rfl, rfl⟩, fun _ => Nat.zero_le _⟩
theorem lss_no {s c : List Int} {r : Int} {l : List Int} {b : Bool} (h : LSs s c r l b) (hn : ¬ (lineB s c = true ∧ 0 ≤ r ∧ okTo s c r c.length)) : l = [] ∧ b = false := by
  rcases h with ⟨h1, _⟩ | ⟨_, h2⟩
  · exact absurd h1 hn
  · exact h2
theorem lss_yes {s c : List Int} {r : Int} {l : List Int} {b : Bool} (h : LSs s c r l b) (hn : lineB s c = true ∧ 0 ≤ r ∧ okTo s c r c.length) : l = lsT s c r c.length ∧ b = true := by
  rcases h with ⟨_, h2⟩ | ⟨h1, _⟩
  · exact h2
  · exact absurd hn h1
end Go.Proofs.Ytfgedolngcdjpaa
