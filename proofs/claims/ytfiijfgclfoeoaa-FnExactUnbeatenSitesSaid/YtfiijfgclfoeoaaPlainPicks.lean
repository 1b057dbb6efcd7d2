/- The places of the lists that are picked. No condition. -/
import Derived.Test.YtfiijfgclfoeoaaPlainCover
namespace Go.Proofs.Ytfiijfgclfoeoaa

def picks (P : List Int → Bool) (d : List (List Int)) : Nat → List Int
  | 0 => []
  | k + 1 => if P (d.getD k []) then picks P d k ++ [(k : Int)] else picks P d k
theorem picks_yes {P : List Int → Bool} {d : List (List Int)} {k : Nat} (h : P (d.getD k []) = true) : picks P d (k + 1) = picks P d k ++ [(k : Int)] := by rw [picks, if_pos h]
theorem picks_no {P : List Int → Bool} {d : List (List Int)} {k : Nat} (h : P (d.getD k []) = false) : picks P d (k + 1) = picks P d k := by rw [picks, if_neg (by rw [h]; decide)]
theorem picks_len (P : List Int → Bool) (d : List (List Int)) : ∀ k, (picks P d k).length ≤ k
  | 0 => Nat.le_refl _
  | k + 1 => by
    have := picks_len P d k
    unfold picks
    split
    · rw [List.length_append]; simp; omega
    · omega
theorem picks_mem (P : List Int → Bool) (d : List (List Int)) : ∀ (k : Nat) (x : Int), x ∈ picks P d k ↔ ∃ i : Nat, x = i ∧ i < k ∧ P (d.getD i []) = true
  | 0, x => by simp [picks]
  | k + 1, x => by
    have ih := picks_mem P d k x
    unfold picks
    split
    · rename_i h
      rw [List.mem_append, ih, List.mem_singleton]
      constructor
      · rintro (⟨i, h1, h2, h3⟩ | h1)
        · exact ⟨i, h1, by omega, h3⟩
        · exact ⟨k, h1, by omega, h⟩
      · rintro ⟨i, h1, h2, h3⟩
        by_cases e : i = k
        · subst e; exact .inr h1
        · exact .inl ⟨i, h1, by omega, h3⟩
    · rename_i h
      rw [ih]
      constructor
      · rintro ⟨i, h1, h2, h3⟩; exact ⟨i, h1, by omega, h3⟩
      · rintro ⟨i, h1, h2, h3⟩
        refine ⟨i, h1, ?_, h3⟩
        by_cases e : i = k
        · subst e; exact absurd h3 h
        · omega
theorem picks_rise (P : List Int → Bool) (d : List (List Int)) (n : Nat) : ∀ k : Nat, k ≤ n → rise n (-1) (picks P d k) = true ∧ lst (-1) (picks P d k) < k
  | 0, _ => by simp [picks, rise, lst]
  | k + 1, hk => by
    obtain ⟨h1, h2⟩ := picks_rise P d n k (by omega)
    unfold picks
    split
    · rw [rise_append, h1, lst_snoc]
      simp only [rise, Bool.and_true, Bool.true_and, Bool.and_eq_true, decide_eq_true_eq]
      omega
    · exact ⟨h1, by omega⟩
theorem picks_set (P : List Int → Bool) (d : List (List Int)) (n : Nat) : setB n (picks P d n) = true := (picks_rise P d n n (Nat.le_refl _)).1

/-- The sets that have an element. -/
def withEl (d : List (List Int)) (x : Int) : List Int := picks (fun l => l.contains x) d d.length
/-- The sets of the turned System. -/
def turnD (n : Nat) (d : List (List Int)) : List (List Int) := (List.range n).map fun (x : Nat) => withEl d (x : Int)
theorem turnD_len (n : Nat) (d : List (List Int)) : (turnD n d).length = n := by unfold turnD; simp
theorem turnD_get (n : Nat) (d : List (List Int)) {k : Nat} (h : k < n) : (turnD n d)[k]'(by rw [turnD_len]; exact h) = withEl d (k : Int) := by simp [turnD]

end Go.Proofs.Ytfiijfgclfoeoaa
